/-
  The document's Turn: picked out of layer 13's GTurned (the same steps).
-/
import Derived.Test.YthcaokiboimibaaCMath
namespace Go.Proofs.Ythcaokiboimibaa
open Go.RowKit S
set_option linter.unusedVariables false
set_option linter.unusedSimpArgs false
def fB (b : Bool) (l : List Pen) : List Pen := (l.filter (fun p => p.ours == b)).map flipP
theorem fB_next {b : Bool} {l : List Pen} {j : Nat} {x : Pen} (h : l[j]? = some x) : fB b (l.take (j + 1)) = fB b (l.take j) ++ (if (x.ours == b) = true then [flipP x] else []) := by
  have e : l.take (j + 1) = l.take j ++ [x] := by rw [List.take_add_one, h]; rfl
  unfold fB
  rw [e, List.filter_append, List.map_append]
  by_cases hb : (x.ours == b) = true <;> simp [hb]
theorem fB_len (b : Bool) (l : List Pen) : (fB b l).length ≤ l.length := by unfold fB; rw [List.length_map]; exact List.length_filter_le _ _
def accK (l : List Pen) (k : Nat) : List Pen := if k = 0 then [] else if k = 1 then fB false l else fB false l ++ fB true l
theorem accK_next (l : List Pen) (k : Nat) (h : k < 2) : accK l (k + 1) = accK l k ++ fB (((k : Int) == 1)) l := by
  match k, h with
  | 0, _ => simp [accK]
  | 1, _ => simp [accK]
theorem fB_both : ∀ l : List Pen, (fB false l).length + (fB true l).length = l.length
  | [] => rfl
  | p :: l => by
    have := fB_both l
    unfold fB at *
    simp only [List.filter_cons]
    cases p.ours <;> simp at * <;> omega
theorem fB_take (b : Bool) (l : List Pen) (j : Nat) : (fB b (l.take j)).length ≤ (fB b l).length := by
  unfold fB
  rw [List.length_map, List.length_map]
  exact ((List.take_sublist j l).filter _).length_le
theorem accK_tot (l : List Pen) (k j : Nat) (h : k < 2) : (accK l k).length + (fB (((k : Int) == 1)) (l.take j)).length ≤ l.length := by
  have h1 := fB_both l
  have h2 := fB_take false l j
  have h3 := fB_take true l j
  match k, h with
  | 0, _ => simp [accK]; omega
  | 1, _ => simp [accK]; omega
theorem accK_len (l : List Pen) (k : Nat) : (accK l k).length ≤ 2 * l.length := by
  have h1 := fB_len false l
  have h2 := fB_len true l
  unfold accK
  split
  · simp
  · split
    · omega
    · rw [List.length_append]; omega
theorem accK_turn (l : List Pen) : accK l 2 = turnP l := by
  unfold accK turnP fB
  rw [if_neg (by omega), if_neg (by omega)]
  congr 2
  · congr 1; funext p; cases p.ours <;> rfl
  · congr 1; funext p; cases p.ours <;> rfl
/-- The new ledger under way. -/
def TL (W : World) (g3 : Nat) (y x : Int) (wr : World) (l : List Pen) : Prop := ∃ v, Has wr g3 26 (ledv y x v) 3 ∧ OwnP W.heap.size wr v l ∧ Keep (· = g3) W wr
theorem built_turn (x y : Int) : Try.prog.built 26 [(0, .int .i64 x), (1, .int .i64 y)] = some (tabv (ledv x y (.slice none 0 0)) 3) := by kernel_rfl
theorem Has.openL {w : World} {g : Nat} {x y : Int} {v : Value} (h : Has w g 26 (ledv x y v) 3) (v' : Value) : Has (w.setCell ⟨g, 2, none⟩ v') g 26 (ledv x y v') 3 :=
  (h.set 2 v').congr _ (fun i hi => by unfold upd ledv; match i, hi with
                                       | 0, _ => rfl
                                       | 1, _ => rfl
                                       | 2, _ => rfl)
theorem Has.flipO {w : World} {g : Nat} {s : Pen} (h : Has w g 39 s.v 35) : Has (w.setCell ⟨g, 0, none⟩ (.bool (!s.ours))) g 39 (flipP s).v 35 :=
  (h.set 0 (.bool (!s.ours))).congr _ (fun i hi => by unfold upd; by_cases e : i = 0
                                                      · subst e; rfl
                                                      · rw [if_neg e]; unfold Pen.v flipP; rw [if_neg e, if_neg e])
set_option maxRecDepth 100000 in
set_option maxHeartbeats 4000000 in
theorem rturn_any (x y : Int) (ad1 : Option Addr) (n c1 : Nat) (l : List Pen) (hn : l.length = n) (w : World) (h1 : Pens w ad1 l) (hz : n ≤ 3910000000000) : Calls Try.prog 16 #[.agg (tabv (ledv x y (.slice ad1 n c1)) 3)] w fun e w' => (∃ v', e = .returned (.agg (tabv (ledv y x v') 3)) ∧ OwnP w.heap.size w' v' (turnP l)) ∧ Below w.heap.size w w' := by
  have hni : (n : Int) ≤ 9223372036854775807 := by omega
  obtain ⟨V1, hV1⟩ : ∃ z, w.alloc (.cells (tabv (ledv x y (.slice ad1 n c1)) 3) 26) = z := ⟨_, rfl⟩
  obtain ⟨V2, hV2⟩ : ∃ z, V1.alloc (.cells #[.int .i64 0, .int .i64 0, .slice none 0 0] 26) = z := ⟨_, rfl⟩
  obtain ⟨V3, hV3⟩ : ∃ z, V2.alloc (.cells #[.int .i64 0, .int .i64 0, .slice none 0 0] 26) = z := ⟨_, rfl⟩
  obtain ⟨V4, hV4⟩ : ∃ z, V3.setRow V2.heap.size (tabv (ledv y x (.slice none 0 0)) 3) = z := ⟨_, rfl⟩
  have k1 : Has V1 w.heap.size 26 (ledv x y (.slice ad1 n c1)) 3 := by rw [← hV1]; exact Has.new w 26 _ 3 _ rfl
  have b1 : Below w.heap.size w V1 := by rw [← hV1]; exact (Below.refl _ _).alloc (Nat.le_refl _) _
  have b2 : Below V1.heap.size V1 V2 := by rw [← hV2]; exact (Below.refl _ _).alloc (Nat.le_refl _) _
  have b3 : Below V2.heap.size V2 V3 := by rw [← hV3]; exact (Below.refl _ _).alloc (Nat.le_refl _) _
  have k2 : Has V2 V1.heap.size 26 (ledv 0 0 (.slice none 0 0)) 3 := by rw [← hV2, zeroL]; exact Has.new V1 26 _ 3 _ rfl
  have k3 : Has V3 V2.heap.size 26 (ledv 0 0 (.slice none 0 0)) 3 := by rw [← hV3, zeroL]; exact Has.new V2 26 _ 3 _ rfl
  have b4 : Below V2.heap.size V2 V4 := by rw [← hV4]; exact below_setRow b3 (Nat.le_refl _) _
  have k4 : Has V4 V2.heap.size 26 (ledv y x (.slice none 0 0)) 3 := by rw [← hV4]; exact k3.row _ _ rfl
  have l1 := k1.lt
  have l2 := k2.lt
  have l3 := k4.lt
  have q1 := (k1.below b2 k1.lt).below b4 (Nat.lt_of_lt_of_le k1.lt b2.size)
  have p1 : Has V3 w.heap.size 26 (ledv x y (.slice ad1 n c1)) 3 := (k1.below b2 k1.lt).below b3 (Nat.lt_of_lt_of_le k1.lt b2.size)
  have q2 := k2.below b4 k2.lt
  have gb4 : Below w.heap.size w V4 := (b1.trans (b2.mono b1.size)).trans (b4.mono (Nat.le_trans b1.size b2.size))
  obtain ⟨g1, hg1⟩ : ∃ g, w.heap.size = g := ⟨_, rfl⟩
  obtain ⟨g2, hg2⟩ : ∃ g, V1.heap.size = g := ⟨_, rfl⟩
  obtain ⟨g3, hg3⟩ : ∃ g, V2.heap.size = g := ⟨_, rfl⟩
  rw [hg1] at q1 p1
  rw [hg2] at q2
  rw [hg3] at k3 k4 hV4
  have a0 : V2.cell? ⟨g1, 0, none⟩ = some (.int .i64 x) := (by have := (k1.below b2 k1.lt).cell 0 (by omega); rw [hg1] at this; exact this)
  have a1 : V2.cell? ⟨g1, 1, none⟩ = some (.int .i64 y) := (by have := (k1.below b2 k1.lt).cell 1 (by omega); rw [hg1] at this; exact this)
  have NE : Hid (g1 < g2 ∧ g2 < g3 ∧ g3 < V4.heap.size ∧ g1 = w.heap.size) := by show _ ∧ _; omega
  have K3 := hide k3
  have Q1 := hide q1
  have Q2 := hide q2
  have HN := hide hn
  have HZ := hide hz
  have TL0 : TL V4 g3 y x V4 (accK l 0) := ⟨_, k4, OwnP.nil _ _, Keep.refl _ _⟩
  clear k1 b1 b2 b3 k2 k3 b4 k4 l1 l2 l3 q1 q2 p1 hn hz
  go_enter Try.func16, Try.ntmps16
  go_wp2_with (first | refine wpW_build (by rfl) 26 _ rfl [(0, .int .i64 y), (1, .int .i64 x)] (by rfl) _ (built_turn y x) ?_ | refine wpList_storeL rfl _ _ rfl rfl g3 y x (.slice none 0 0) rfl rfl rfl _ K3.out ?_)
  clear a0 a1
  go_loopw [4] (fun k wr => ∃ kk : Nat, kk ≤ 2 ∧ k = .int .i64 (kk : Int) ∧ TL V4 g3 y x wr (accK l kk)) (fun k _ => 2 - (intOf k).toNat)
  case atStart => exact ⟨0, by omega, rfl, by rw [hV4]; exact TL0⟩
  case round =>
    obtain ⟨kk, hkk, rfl, hTL⟩ := hrel
    by_cases hk : kk < 2
    · have hd : decide ((kk : Int) < 2) = true := decide_eq_true (by omega)
      have NXK := hide (accK_next l kk hk)
      obtain ⟨bk, hbk⟩ : ∃ b, ((kk : Int) == 1) = b := ⟨_, rfl⟩
      have HAL := hide (fun j => accK_tot l kk j hk)
      rw [hbk] at NXK HAL
      obtain ⟨A0, hA0⟩ : ∃ A, accK l kk = A := ⟨_, rfl⟩
      rw [hA0] at hTL NXK HAL
      clear hA0
      go_wp2
      go_loopw [5] (fun i wr => ∃ j : Nat, j ≤ n ∧ i = .int .i64 (j : Int) ∧ TL V4 g3 y x wr (A0 ++ fB bk (l.take j))) (fun i _ => n - (intOf i).toNat)
      case atStart => exact ⟨0, Nat.zero_le _, rfl, by simpa [fB] using hTL⟩
      case round =>
        obtain ⟨j, hj, rfl, v3, k3, ho3, kp3⟩ := hrel
        have A2 : wr.cell? ⟨g1, 2, none⟩ = some (.slice ad1 n c1) := (Q1.out.keep kp3 (fun e => by have := NE.out; omega)).cell 2 (by omega)
        have gbr : Below w.heap.size w wr := gb4.trans (kp3.below gb4.size (fun k hk e => by have := NE.out; omega))
        have h1' : Pens wr ad1 l := h1.below gbr
        have oneV3 := ho3.one
        by_cases hlt : j < n
        · have hd : decide ((j : Int) < (n : Int)) = true := decide_eq_true (by omega)
          have hd2 : decide (j < n) = true := decide_eq_true hlt
          have hk0 : (0 : Int) ≤ (j : Int) := by omega
          have hk1 : (j : Int) < (n : Int) := by omega
          obtain ⟨s, hs⟩ : ∃ s, l[j]? = some s := ⟨_, List.getElem?_eq_getElem (by rw [HN.out]; exact hlt)⟩
          obtain ⟨b, o, rfl, hb1, hA⟩ := h1'.get j s hs
          have NX := hide (fB_next (b := bk) hs)
          obtain ⟨w6, w7, hW6, q1, hW7, r1, rb⟩ := newP wr s
          have Q6 := hide q1
          have R7 := hide r1
          have HA := hide hA
          have c0 : w7.cell? ⟨wr.heap.size, 0, none⟩ = some (.bool s.ours) := r1.cell 0 (by omega)
          have zf := r1.frozen 0
          have k7 := k3.below rb k3.lt
          have o7 := ho3.below rb
          have kp7 : Keep (· = g3) V4 w7 := kp3.then_ (rb.mono kp3.size)
          have A7 := (rb.cell (p := ⟨g1, 2, none⟩) (Q1.out.keep kp3 (fun e => by have := NE.out; omega)).lt).trans A2
          have hgs : V4.heap.size ≤ wr.heap.size := kp3.size
          generalize hgP : wr.heap.size = gP at Q6 R7 c0 zf hW7 hgs
          have hov : ∀ k, v3.ownBlock = some k → V4.heap.size ≤ k ∧ k < gP := fun k hk => by rw [← hgP]; exact ho3.lt k hk
          clear hs hA q1 r1 hb1 k3 ho3
          cases hm : (s.ours == bk) with
          | false =>
            go_wp2_with (first | refine wpW_load_at 39 _ rfl b (o + j * 35) (by rfl) (by rfl) _ 35 _ HA.out Try.underlying39 rfl infoP ?_ | refine wpList_storeP rfl _ _ rfl rfl gP s rfl rfl _ Q6.out ?_)
            go_roundw
            case rel => exact ⟨j + 1, by omega, by go_num, v3, k7, by rw [NX.out, if_neg (by rw [hm]; simp), List.append_nil]; exact o7, kp7⟩
            case measure => simp [intOf]; omega
          | true =>
            obtain ⟨w8, hW8⟩ : ∃ z, w7.setCell ⟨gP, 0, none⟩ (.bool (!s.ours)) = z := ⟨_, rfl⟩
            have R8 : Hid (Has w8 gP 39 (flipP s).v 35) := by rw [← hW8]; exact R7.out.flipO
            have kx8 : Keep (· = gP) w7 w8 := by rw [← hW8]; exact keep_set _ _ _ _ rfl
            have k8 := k7.keep kx8 (fun e => by have := NE.out; omega)
            have o8 : OwnP V4.heap.size w8 v3 (A0 ++ fB bk (l.take j)) := o7.same fun k hk => kx8.block k (o7.lt k hk).2 (fun e => by have := hov k hk; omega)
            have kp8 : Keep (· = g3) V4 w8 := kp7.transR kx8 (fun k hk e => by omega)
            have hlen : (A0 ++ fB bk (l.take j)).length ≤ 3910000000000 := by
              have e1 := HAL.out j
              have e4 := HZ.out
              have e5 := HN.out
              rw [List.length_append]
              omega
            obtain ⟨v', w8a, w9, rS, rA, oA, gr, bA⟩ := run_appPW w8 V4.heap.size v3 (A0 ++ fB bk (l.take j)) (flipP s) o8 hlen kp8.size
            obtain ⟨adv, nv, cv, rfl⟩ := oA.form
            have k9 : Has w9 g3 26 (ledv y x v3) 3 := k8.same (gr g3 k8.lt (fun e => by have := hov g3 e; have := NE.out; omega))
            have kp9 : Keep (· = g3) V4 w9 := kp8.then_ bA
            have c3 : w8.cell? ⟨g3, 2, none⟩ = some v3 := k8.cell 2 (by omega)
            have zf3 := k9.frozen 2
            have c9 : w9.cell? ⟨g3, 2, none⟩ = some v3 := k9.cell 2 (by omega)
            have oneV := oA.one
            obtain ⟨wB, hWB⟩ : ∃ z, w9.setCell ⟨g3, 2, none⟩ (.slice adv nv cv) = z := ⟨_, rfl⟩
            have kB : Has wB g3 26 (ledv y x (.slice adv nv cv)) 3 := by rw [← hWB]; exact k9.openL _
            have kxB : Keep (· = g3) w9 wB := by rw [← hWB]; exact keep_set _ _ _ _ rfl
            have oB : OwnP V4.heap.size wB (.slice adv nv cv) ((A0 ++ fB bk (l.take j)) ++ [flipP s]) := oA.same fun k hk => kxB.block k (oA.lt k hk).2 (fun e => by have := (oA.lt k hk).1; have := NE.out; omega)
            have RS := hide rS
            have RA := hide rA
            clear rS rA oA gr bA k9 o8 k8 o7 k7 kx8
            go_wp2_with (first | refine wpW_load_at 39 _ rfl b (o + j * 35) (by rfl) (by rfl) _ 35 _ HA.out Try.underlying39 rfl infoP ?_ | refine wpList_storeP rfl _ _ rfl rfl gP s rfl rfl _ Q6.out ?_ | refine wpW_load_at 39 _ rfl gP 0 (by rfl) (by rfl) (flipP s).v 35 _ (R8.out.at_ 0 (by omega) (fun i hi => by rw [Nat.zero_add])) Try.underlying39 rfl infoP ?_ | refine wpList_slice1 rfl 24 _ rfl (.agg (tabv (flipP s).v 35)) rfl RS.out ?_ | refine wpList_app rfl _ _ _ rfl RA.out ?_)
            go_roundw
            case rel => exact ⟨j + 1, by omega, by go_num, _, kB, by rw [NX.out, if_pos hm, ← List.append_assoc]; exact oB, kp9.trans kxB⟩
            case measure => simp [intOf]; omega
        · have hjn : n = j := by omega
          subst hjn
          have hd : decide ((n : Int) < (n : Int)) = false := decide_eq_false (by omega)
          have hd2 : decide (n < n) = false := decide_eq_false (by omega)
          rw [show l.take n = l by rw [← HN.out, List.take_length], ← NXK.out] at ho3
          go_wp2
          go_roundw
          case rel => exact ⟨kk + 1, by omega, by go_num, v3, k3, ho3, kp3⟩
          case measure => simp [intOf]; omega
    · have hkn : kk = 2 := by omega
      subst hkn
      have hd : decide (((2 : Nat) : Int) < 2) = false := by decide
      obtain ⟨v3, k3, ho3, kp3⟩ := hTL
      rw [accK_turn] at ho3
      have q2r := Q2.out.keep kp3 (fun e => by have := NE.out; omega)
      have gbr : Below w.heap.size w wr := gb4.trans (kp3.below gb4.size (fun k hk e => by have := NE.out; omega))
      have kxF : Keep (· = g2) wr (wr.setRow g2 (tabv (ledv y x v3) 3)) := ⟨rfl, rfl, rfl, by simp, fun k hk hne => setRow_other wr g2 k _ hne⟩
      have oF : OwnP V4.heap.size (wr.setRow g2 (tabv (ledv y x v3) 3)) v3 (turnP l) := ho3.same fun k hk => kxF.block k (ho3.lt k hk).2 (fun e => by have := (ho3.lt k hk).1; have := NE.out; omega)
      have K3r := hide k3
      have Q2r := hide q2r
      have oneV := ho3.one
      clear k3 q2r
      go_wp2_with (first | refine wpW_load_at 26 _ rfl g3 0 (by rfl) (by rfl) (ledv y x v3) 3 _ (K3r.out.at_ 0 (by omega) (fun i hi => by rw [Nat.zero_add])) Try.underlying26 rfl infoL ?_ | refine wpList_storeL rfl _ _ rfl rfl g2 y x v3 oneV rfl rfl _ Q2r.out ?_)
      exact bodyPost_ret (results_cell_row rfl _ _ g2 26 _ (0, 0) _ rfl (Q2r.out.row _ (ledv y x v3) rfl) Try.underlying26 rfl (by rw [tabv_size]; exact infoL)) rfl ⟨⟨v3, rfl, oF.mono gb4.size⟩, below_setRow gbr (by have := NE.out; omega) _⟩
end Go.Proofs.Ythcaokiboimibaa
