/-
  The law's own: bases, Made, counts (printed by gen_made.py).
-/
import Derived.Test.YtoomcpehdflolaaGSpends
namespace Go.Proofs.Ytoomcpehdflolaa
open Go.RowKit S Go.Shelf Go.Sort
set_option linter.unusedVariables false
set_option linter.unusedSimpArgs false
theorem and_mask (x : Int) (m : Nat) (hm : m < 9223372036854775808) : 0 ≤ bits .and .i64 x (m : Int) ∧ bits .and .i64 x (m : Int) ≤ (m : Int) := by
  have e : bits .and .i64 x (m : Int) = IntKind.i64.wrap ((BitVec.ofInt 64 x &&& BitVec.ofInt 64 (m : Int)).toNat : Int) := rfl
  have hle : (BitVec.ofInt 64 x &&& BitVec.ofInt 64 (m : Int)).toNat ≤ m := by
    rw [BitVec.toNat_and]
    refine Nat.le_trans Nat.and_le_right ?_
    rw [BitVec.ofInt_natCast, BitVec.toNat_ofNat]
    exact Nat.mod_le _ _
  rw [e]
  generalize (BitVec.ofInt 64 x &&& BitVec.ofInt 64 (m : Int)).toNat = k at hle
  rw [IntKind.wrap_i64]
  omega
def baseI (x : Int) : Int := bits .and .i64 x 576460752303423487
theorem baseI_bd (x : Int) : 0 ≤ baseI x ∧ baseI x ≤ 576460752303423487 := and_mask x 576460752303423487 (by omega)
theorem bases_any (x y : Int) (w : World) : Calls Try.prog 9 #[.int .i64 x, .int .i64 y] w fun e w' => e = .returned (.tuple #[.int .i64 (baseI x), .int .i64 (baseI y)]) ∧ w' = w := by
  unfold baseI
  go_enter Try.func9, Try.ntmps9
  go_wp2
  go_ret2
  exact ⟨rfl, rfl⟩
def idI (x : Int) : Int := bits .and .i64 x 2047
def kdI (x : Int) : Int := bits .and .i64 x 3
def amI (x : Int) : Int := 1 + bits .and .i64 x 1152921504606846975
theorem idI_bd (x : Int) : 0 ≤ idI x ∧ idI x ≤ 2047 := and_mask x 2047 (by omega)
theorem amI_bd (x : Int) : 1 ≤ amI x ∧ amI x ≤ 1152921504606846976 := by
  have h : 0 ≤ bits .and .i64 x 1152921504606846975 ∧ bits .and .i64 x 1152921504606846975 ≤ 1152921504606846975 := and_mask x 1152921504606846975 (by omega)
  unfold amI; omega
def made0 (u : Upd) : Upd := ⟨1, idI u.id, 0, fun _ => 0, nilB⟩
def madeU (u : Upd) : Upd := if kdI u.kind = 2 then ⟨2, idI u.id, 0, u.hash, nilB⟩ else if kdI u.kind = 3 then ⟨3, idI u.id, 0, fun _ => 0, nilB⟩ else ⟨1, idI u.id, amI u.amt, u.hash, nilB⟩
theorem made_valid (u : Upd) : validB (madeU u) = true := by
  have h1 := idI_bd u.id
  have h2 := amI_bd u.amt
  have i0 : decide (idI u.id < 0) = false := decide_eq_false (by omega)
  have i1 : decide (2048 ≤ idI u.id) = false := decide_eq_false (by omega)
  have i2 : decide (1 ≤ amI u.amt) = true := decide_eq_true (by omega)
  have i3 : decide (amI u.amt ≤ 1152921504606846976) = true := decide_eq_true (by omega)
  have n1 : nilB.toList.isEmpty = true := by decide +kernel
  have n0 : ∀ k i a h, noteE ⟨k, i, a, h, nilB⟩ = true := fun _ _ _ _ => n1
  unfold madeU validB
  split
  · simp [i0, i1, n0]
  · split
    · simp [i0, i1]; exact ⟨eqH_refl _, by decide⟩
    · simp [i0, i1, i2, i3, n0]
theorem made_all (l : List Upd) (k : Nat) : ((l.map madeU).take k).all validB = true := by
  rw [List.all_eq_true]
  intro u hu
  obtain ⟨v, _, rfl⟩ := List.mem_map.1 (List.mem_of_mem_take hu)
  exact made_valid v
theorem made_next {l : List Upd} {j : Nat} {x : Upd} (h : l[j]? = some x) : (l.take (j + 1)).map madeU = (l.take j).map madeU ++ [madeU x] := by rw [take_snoc h, List.map_append]; rfl
set_option maxRecDepth 100000 in
theorem built_made (i : Int) : Try.prog.built 39 [(0, .int .i64 1), (1, .int .i64 i)] = some (tabv (⟨1, i, 0, fun _ => 0, nilB⟩ : Upd).v 36) := by kernel_rfl
section
variable {ops : Array Oper} {rest : List Oper} {o : Oper} {a : Act} {w : World} {Q : Exit → Act → World → Prop}
theorem wpList_storeHU (hgd : o.guard = none) (x y : Operand) (ho : o.op = .store 37 x y) (hd : o.dst = none) (g : Nat) (h : Nat → UInt8) (s : Upd) (hx : a.eval x = .pointer (some ⟨g, 3, none⟩)) (hy : a.eval y = .agg (tabv (bv h) 32)) (hg : Has w g 39 s.v 36) (t : Upd) (ht : t = ⟨s.kind, s.id, s.amt, h, s.note⟩)
    (hk : wpList Try.prog ops Q rest a (w.setRow g (tabv t.v 36))) : wpList Try.prog ops Q (o :: rest) a w :=
  wpList_store_part hgd 37 x y ho hd g 3 (bv h) 32 hx hy 39 s.v 36 hg (by omega) info26 (fun i _ => rfl) _ (fun i hi => by
    subst ht
    unfold splice Upd.v bv
    by_cases h0 : i = 0
    · subst h0; simp
    · by_cases h1 : i = 1
      · subst h1; simp
      · by_cases h2 : i = 2
        · subst h2; simp
        · by_cases h3 : i < 35
          · rw [if_pos (by omega), if_neg h0, if_neg h1, if_neg h2, if_pos h3]
          · rw [if_neg (by omega), if_neg h0, if_neg h1, if_neg h2, if_neg h3, if_neg h0, if_neg h1, if_neg h2, if_neg h3]) hk
end
theorem Has.kindU {w : World} {g : Nat} {s : Upd} (h : Has w g 39 s.v 36) (k : Int) : Has (w.setCell ⟨g, 0, none⟩ (.int .i64 k)) g 39 (⟨k, s.id, s.amt, s.hash, s.note⟩ : Upd).v 36 :=
  (h.set 0 (.int .i64 k)).congr _ (fun i hi => by unfold upd Upd.v; by_cases e : i = 0
                                                  · subst e; simp
                                                  · rw [if_neg e, if_neg e, if_neg e])
theorem Has.amtU {w : World} {g : Nat} {s : Upd} (h : Has w g 39 s.v 36) (k : Int) : Has (w.setCell ⟨g, 2, none⟩ (.int .i64 k)) g 39 (⟨s.kind, s.id, k, s.hash, s.note⟩ : Upd).v 36 :=
  (h.set 2 (.int .i64 k)).congr _ (fun i hi => by unfold upd Upd.v; by_cases e : i = 2
                                                  · subst e; simp
                                                  · rw [if_neg e]; by_cases e0 : i = 0
                                                    · subst e0; simp
                                                    · by_cases e1 : i = 1
                                                      · subst e1; simp
                                                      · rw [if_neg e0, if_neg e1, if_neg e, if_neg e0, if_neg e1, if_neg e])
set_option maxRecDepth 100000 in
set_option maxHeartbeats 4000000 in
theorem made_any (ad : Option Addr) (n cap : Nat) (l : List Upd) (hn : l.length = n) (hz : n ≤ 1954687338211) (w : World) (hS : Upds w ad l) : Calls Try.prog 10 #[.slice ad n cap] w fun e w' => (∃ v, e = .returned v ∧ OwnU w.heap.size w' v (l.map madeU)) ∧ Below w.heap.size w w' := by
  have hni : (n : Int) ≤ 140737488351232 := by omega
  have HN := hide hn
  have HZ := hide hz
  clear hn hz
  go_enter Try.func10, Try.ntmps10
  go_wp2
  go_loopw [4, 3] (fun i v wr => ∃ j : Nat, j ≤ n ∧ i = .int .i64 (j : Int) ∧ OwnU w.heap.size wr v ((l.take j).map madeU) ∧ Below w.heap.size w wr) (fun i _ _ => n - (intOf i).toNat)
  case atStart => exact ⟨0, Nat.zero_le _, rfl, OwnU.nil _ _, Below.refl _ _⟩
  case round =>
    obtain ⟨j, hj, rfl, hO, gb⟩ := hrel
    by_cases hlt : j < n
    · have hd : decide ((j : Int) < (n : Int)) = true := decide_eq_true (by omega)
      have hd2 : decide (j < n) = true := decide_eq_true hlt
      have hk0 : (0 : Int) ≤ (j : Int) := by omega
      have hk1 : (j : Int) < (n : Int) := by omega
      obtain ⟨s, hs⟩ : ∃ s, l[j]? = some s := ⟨_, List.getElem?_eq_getElem (by rw [HN.out]; exact hlt)⟩
      obtain ⟨b, o, rfl, hb1, hA⟩ := (hS.below gb).get j s hs
      have HS := hide hs
      have HA := hide hA
      have c1 : wr.cell? ⟨b, o + j * 36 + 1, none⟩ = some (.int .i64 s.id) := hA 1 (by omega)
      obtain ⟨w6, w7, hW6, q1, hW7, r1, rb⟩ := newU wr (made0 s)
      have c0 : w7.cell? ⟨b, o + j * 36, none⟩ = some (.int .i64 s.kind) := (rb.cell (p := ⟨b, o + j * 36, none⟩) hb1).trans (hA 0 (by omega))
      have Q1 := hide q1
      have R7 := hide r1
      have gb7 := gb.trans (rb.mono gb.size)
      have hO7 := hO.below rb (Nat.le_refl _)
      have hge := gb.size
      have hge7 := gb7.size
      have NX := hide (made_next HS.out)
      have d0 : w7.cell? ⟨wr.heap.size, 0, none⟩ = some (.int .i64 1) := r1.cell 0 (by omega)
      have d2 : w7.cell? ⟨wr.heap.size, 2, none⟩ = some (.int .i64 0) := r1.cell 2 (by omega)
      have zf := r1.frozen 0
      have zf2 := r1.frozen 2
      have hlen : ((l.take j).map madeU).length = j := by rw [List.length_map, List.length_take, HN.out]; omega
      generalize hgU : wr.heap.size = gU at Q1 R7 hW7 hge zf zf2 d0 d2
      have eid : bits .and .i64 s.id 2047 = idI s.id := rfl
      have ekd : bits .and .i64 s.kind 3 = kdI s.kind := rfl
      clear hs hA q1 r1
      by_cases hk2 : kdI s.kind = 2
      · have e2 : (kdI s.kind == 2) = true := by rw [hk2]; rfl
        obtain ⟨w8, hW8⟩ : ∃ x, w7.setCell ⟨gU, 0, none⟩ (.int .i64 2) = x := ⟨_, rfl⟩
        have R8 : Hid (Has w8 gU 39 (⟨2, idI s.id, 0, fun _ => 0, nilB⟩ : Upd).v 36) := by rw [← hW8]; exact R7.out.kindU 2
        have k8 : Keep (· = gU) w7 w8 := by rw [← hW8]; exact keep_set _ _ _ _ rfl
        have HA8 : Hid (At w8 b (o + j * 36 + 3) (bv s.hash) 32) := fun i hi => by
          have e := HA.out (3 + i) (by omega)
          rw [Upd.v_hash s i hi] at e
          rw [← hW8, World.cell?_setCell_far _ _ _ _ (by show gU ≠ b; omega), show o + j * 36 + 3 + i = o + j * 36 + (3 + i) by omega]
          exact (rb.cell (p := ⟨b, o + j * 36 + (3 + i), none⟩) hb1).trans e
        obtain ⟨wF, hWF⟩ : ∃ x, w8.setRow gU (tabv (⟨2, idI s.id, 0, s.hash, nilB⟩ : Upd).v 36) = x := ⟨_, rfl⟩
        have eM : madeU s = ⟨2, idI s.id, 0, s.hash, nilB⟩ := by unfold madeU; rw [if_pos hk2]
        have RF : Hid (Has wF gU 39 (madeU s).v 36) := by rw [eM, ← hWF]; exact R8.out.row _ _ rfl
        have kF : Keep (· = gU) w7 wF := by rw [← hWF]; exact k8.trans ⟨rfl, rfl, rfl, by simp, fun k hk hne => setRow_other w8 gU k _ hne⟩
        have hO8 : OwnU w.heap.size wF _ ((l.take j).map madeU) := hO7.same fun k hk => kF.block k (hO7.lt k hk).2 (fun e => by have := (hO.lt k hk).2; omega)
        have gb8 := gb7.trans (kF.below hge7 (fun k hk e => by omega))
        obtain ⟨v', w9, wA, r9, rA, oA, _, bA⟩ := appU_step wF w.heap.size _ ((l.take j).map madeU) (madeU s) hO8 (by rw [hlen]; have := HZ.out; omega) gb8.size
        have RA9 := hide r9
        have RAA := hide rA
        clear r9 rA hO hO7 hO8
        go_wp2_with (first | rw [hWF] | refine wpW_build (by rfl) 39 _ rfl [(0, .int .i64 1), (1, .int .i64 (idI s.id))] (by rfl) _ (built_made _) ?_ | refine wpList_storeU rfl _ _ rfl rfl (gU) (made0 s) rfl rfl _ Q1.out ?_ | refine wpW_load_at 37 _ rfl b (o + j * 36 + 3) (by rfl) (by rfl) _ 32 _ (HA8.out) Try.underlying37 rfl info26 ?_ | refine wpList_storeHU rfl _ _ rfl rfl gU s.hash _ rfl rfl R8.out (⟨2, idI s.id, 0, s.hash, nilB⟩) rfl ?_ | refine wpW_load_at 39 _ rfl (gU) (0) (by rfl) (by rfl) _ 36 _ (RF.out.at_ 0 (by omega) (fun i hi => by rw [Nat.zero_add])) Try.underlying39 rfl infoU ?_ | refine wpList_slice1 rfl 22 _ rfl (.agg (tabv (madeU s).v 36)) rfl RA9.out ?_ | refine wpList_app rfl _ _ _ rfl RAA.out ?_)
        go_roundw
        case rel => exact ⟨j + 1, by omega, by go_num, by rw [NX.out]; exact oA, gb8.trans bA⟩
        case measure => simp [intOf]; omega
      · have e2 : (kdI s.kind == 2) = false := by rw [beq_eq_false_iff_ne]; exact hk2
        by_cases hk3 : kdI s.kind = 3
        · have e3 : (kdI s.kind == 3) = true := by rw [hk3]; rfl
          obtain ⟨wF, hWF⟩ : ∃ x, w7.setCell ⟨gU, 0, none⟩ (.int .i64 3) = x := ⟨_, rfl⟩
          have eM : madeU s = ⟨3, idI s.id, 0, fun _ => 0, nilB⟩ := by unfold madeU; rw [if_neg hk2, if_pos hk3]
          have RF : Hid (Has wF gU 39 (madeU s).v 36) := by rw [eM, ← hWF]; exact R7.out.kindU 3
          have kF : Keep (· = gU) w7 wF := by rw [← hWF]; exact keep_set _ _ _ _ rfl
          have hO8 : OwnU w.heap.size wF _ ((l.take j).map madeU) := hO7.same fun k hk => kF.block k (hO7.lt k hk).2 (fun e => by have := (hO.lt k hk).2; omega)
          have gb8 := gb7.trans (kF.below hge7 (fun k hk e => by omega))
          obtain ⟨v', w9, wA, r9, rA, oA, _, bA⟩ := appU_step wF w.heap.size _ ((l.take j).map madeU) (madeU s) hO8 (by rw [hlen]; have := HZ.out; omega) gb8.size
          have RA9 := hide r9
          have RAA := hide rA
          clear r9 rA hO hO7 hO8
          go_wp2_with (first | refine wpW_build (by rfl) 39 _ rfl [(0, .int .i64 1), (1, .int .i64 (idI s.id))] (by rfl) _ (built_made _) ?_ | refine wpList_storeU rfl _ _ rfl rfl (gU) (made0 s) rfl rfl _ Q1.out ?_ | refine wpW_load_at 39 _ rfl (gU) (0) (by rfl) (by rfl) _ 36 _ (RF.out.at_ 0 (by omega) (fun i hi => by rw [Nat.zero_add])) Try.underlying39 rfl infoU ?_ | refine wpList_slice1 rfl 22 _ rfl (.agg (tabv (madeU s).v 36)) rfl RA9.out ?_ | refine wpList_app rfl _ _ _ rfl RAA.out ?_)
          go_roundw
          case rel => exact ⟨j + 1, by omega, by go_num, by rw [NX.out]; exact oA, gb8.trans bA⟩
          case measure => simp [intOf]; omega
        · have e3 : (kdI s.kind == 3) = false := by rw [beq_eq_false_iff_ne]; exact hk3
          obtain ⟨w8, hW8⟩ : ∃ x, w7.setCell ⟨gU, 2, none⟩ (.int .i64 (amI s.amt)) = x := ⟨_, rfl⟩
          have R8 : Hid (Has w8 gU 39 (⟨1, idI s.id, amI s.amt, fun _ => 0, nilB⟩ : Upd).v 36) := by rw [← hW8]; exact R7.out.amtU (amI s.amt)
          have k8 : Keep (· = gU) w7 w8 := by rw [← hW8]; exact keep_set _ _ _ _ rfl
          have HA8 : Hid (At w8 b (o + j * 36 + 3) (bv s.hash) 32) := fun i hi => by
            have e := HA.out (3 + i) (by omega)
            rw [Upd.v_hash s i hi] at e
            rw [← hW8, World.cell?_setCell_far _ _ _ _ (by show gU ≠ b; omega), show o + j * 36 + 3 + i = o + j * 36 + (3 + i) by omega]
            exact (rb.cell (p := ⟨b, o + j * 36 + (3 + i), none⟩) hb1).trans e
          have a7 : w7.cell? ⟨b, o + j * 36 + 2, none⟩ = some (.int .i64 s.amt) := (rb.cell (p := ⟨b, o + j * 36 + 2, none⟩) hb1).trans (HA.out 2 (by omega))
          obtain ⟨wF, hWF⟩ : ∃ x, w8.setRow gU (tabv (⟨1, idI s.id, amI s.amt, s.hash, nilB⟩ : Upd).v 36) = x := ⟨_, rfl⟩
          have eM : madeU s = ⟨1, idI s.id, amI s.amt, s.hash, nilB⟩ := by unfold madeU; rw [if_neg hk2, if_neg hk3]
          have RF : Hid (Has wF gU 39 (madeU s).v 36) := by rw [eM, ← hWF]; exact R8.out.row _ _ rfl
          have kF : Keep (· = gU) w7 wF := by rw [← hWF]; exact k8.trans ⟨rfl, rfl, rfl, by simp, fun k hk hne => setRow_other w8 gU k _ hne⟩
          have d9 : True := trivial
          have z9 : IntKind.i64.wrap (1 + bits .and .i64 s.amt 1152921504606846975) = amI s.amt := by have := amI_bd s.amt; unfold amI at *; rw [IntKind.wrap_i64]; omega
          have hO8 : OwnU w.heap.size wF _ ((l.take j).map madeU) := hO7.same fun k hk => kF.block k (hO7.lt k hk).2 (fun e => by have := (hO.lt k hk).2; omega)
          have gb8 := gb7.trans (kF.below hge7 (fun k hk e => by omega))
          obtain ⟨v', w9, wA, r9, rA, oA, _, bA⟩ := appU_step wF w.heap.size _ ((l.take j).map madeU) (madeU s) hO8 (by rw [hlen]; have := HZ.out; omega) gb8.size
          have RA9 := hide r9
          have RAA := hide rA
          clear r9 rA hO hO7 hO8
          go_wp2_with (first | rw [hWF] | refine wpW_build (by rfl) 39 _ rfl [(0, .int .i64 1), (1, .int .i64 (idI s.id))] (by rfl) _ (built_made _) ?_ | refine wpList_storeU rfl _ _ rfl rfl (gU) (made0 s) rfl rfl _ Q1.out ?_ | refine wpW_load_at 37 _ rfl b (o + j * 36 + 3) (by rfl) (by rfl) _ 32 _ (HA8.out) Try.underlying37 rfl info26 ?_ | refine wpList_storeHU rfl _ _ rfl rfl gU s.hash _ rfl rfl R8.out (⟨1, idI s.id, amI s.amt, s.hash, nilB⟩) rfl ?_ | refine wpW_load_at 39 _ rfl (gU) (0) (by rfl) (by rfl) _ 36 _ (RF.out.at_ 0 (by omega) (fun i hi => by rw [Nat.zero_add])) Try.underlying39 rfl infoU ?_ | refine wpList_slice1 rfl 22 _ rfl (.agg (tabv (madeU s).v 36)) rfl RA9.out ?_ | refine wpList_app rfl _ _ _ rfl RAA.out ?_)
          go_roundw
          case rel => exact ⟨j + 1, by omega, by go_num, by rw [NX.out]; exact oA, gb8.trans bA⟩
          case measure => simp [intOf]; omega
    · have hjn : n = j := by omega
      subst hjn
      have hd : decide ((n : Int) < (n : Int)) = false := decide_eq_false (by omega)
      have hd2 : decide (n < n) = false := decide_eq_false (by omega)
      rw [show l.take n = l by rw [← HN.out, List.take_length]] at hO
      go_wp2
      go_ret
      exact ⟨⟨_, rfl, hO⟩, gb⟩
end Go.Proofs.Ytoomcpehdflolaa
