/-
  made (printed by gen_c8.py).
-/
import Derived.Test.YthmbpddpdbkioaaCFirst
namespace Go.Proofs.Ythmbpddpdbkioaa
open Go.RowKit S
set_option linter.unusedVariables false
set_option linter.unusedSimpArgs false
open Cu (nb be hl ofL CW Mw CR Mr)
theorem and_mask (x : Int) (m : Nat) (hm : m < 9223372036854775808) : 0 ≤ bits .and .i64 x (m : Int) ∧ bits .and .i64 x (m : Int) ≤ (m : Int) := by
  have e : bits .and .i64 x (m : Int) = IntKind.i64.wrap ((BitVec.ofInt 64 x &&& BitVec.ofInt 64 (m : Int)).toNat : Int) := rfl
  have hle : (BitVec.ofInt 64 x &&& BitVec.ofInt 64 (m : Int)).toNat ≤ m := by
    rw [BitVec.toNat_and]
    refine Nat.le_trans Nat.and_le_right ?_
    rw [BitVec.ofInt_natCast, BitVec.toNat_ofNat]
    exact Nat.mod_le _ _
  rw [e]
  generalize (BitVec.ofInt 64 x &&& BitVec.ofInt 64 (m : Int)).toNat = k at hle
  rw [IntKind.wrap_i64]
  omega
/-- A ledger's list under way: cur, whose adds are laid; n, the last one's ID. -/
structure MI (cur : Bool) (n : Int) (M : List Pen) : Prop where
  good : ∀ i, i < M.length → goodAt M i
  last : ∀ q, 0 < M.length → M[M.length - 1]? = some q → (q.ours = cur ∧ q.id ≤ n) ∨ (q.ours = true ∧ cur = false)
  cnt : (cntP cur M : Int) ≤ n
  oth : cntP (!cur) M ≤ 43
  ft : cur = true → cntP false M = 0
  nn : 0 ≤ n ∧ n ≤ 43
  rng : ∀ p ∈ M, p.id ≤ 43
theorem MI.start : MI true 0 [] := ⟨fun i hi => absurd hi (by simp), fun q h => absurd h (by simp), by simp [cntP], by simp [cntP], fun _ => rfl, by omega, fun p hp => by cases hp⟩
theorem MI.turn {n : Int} {M : List Pen} (h : MI true n M) : MI false 0 M := by
  refine ⟨h.good, fun q h0 hq => .inr ⟨?_, rfl⟩, by have := h.ft rfl; omega, by have := h.cnt; have := h.nn; show cntP true M ≤ 43; omega, (fun e => by cases e), by omega, h.rng⟩
  rcases h.last q h0 hq with h1 | h1
  · exact h1.1
  · exact h1.1
theorem cnt_app (o : Bool) (M : List Pen) (p : Pen) : cntP o (M ++ [p]) = cntP o M + (if (p.ours == o) = true then 1 else 0) := by
  unfold cntP
  rw [List.filter_append, List.length_append]
  by_cases hc : (p.ours == o) = true <;> simp [hc]
theorem MI.add {cur : Bool} {n : Int} {M : List Pen} (h : MI cur n M) (hn : n < 40) {p : Pen} (ho : p.ours = cur) (h1 : n < p.id) (h2 : p.id ≤ n + 4) (ha : 1 ≤ p.amt) (hb : p.amt ≤ 1152921504606846976) : MI cur p.id (M ++ [p]) := by
  have hn' := h.nn
  have hok : okP p = true := by
    unfold okP
    have i0 : decide (p.id < 0) = false := decide_eq_false (by omega)
    have i1 : decide (p.amt < 1) = false := decide_eq_false (by omega)
    have i2 : decide (1152921504606846976 < p.amt) = false := decide_eq_false (by omega)
    rw [i0, i1, i2]; rfl
  refine ⟨fun i hi => ?_, fun q _ hq => ?_, ?_, ?_, fun e => ?_, by omega, fun q hq => ?_⟩
  · rw [List.length_append, List.length_singleton] at hi
    rcases Nat.lt_or_ge i M.length with hc | hc
    · intro q hq
      rw [List.getElem?_append_left hc] at hq
      have := h.good i hc q hq
      refine ⟨this.1, fun r h0 hr => ?_⟩
      rw [List.getElem?_append_left (by omega)] at hr
      exact this.2 r h0 hr
    · obtain rfl : i = M.length := by omega
      intro q hq
      rw [List.getElem?_append_right (Nat.le_refl _), Nat.sub_self] at hq
      simp only [List.getElem?_cons_zero, Option.some.injEq] at hq
      subst hq
      refine ⟨hok, fun r h0 hr => ?_⟩
      rw [List.getElem?_append_left (by omega)] at hr
      unfold foll
      rcases h.last r h0 hr with ⟨e1, e2⟩ | ⟨e1, e2⟩
      · rw [e1, ho]
        simp
        omega
      · rw [e1, ho, e2]
        rfl
  · rw [List.length_append, List.length_singleton, Nat.add_sub_cancel, List.getElem?_append_right (Nat.le_refl _), Nat.sub_self] at hq
    simp only [List.getElem?_cons_zero, Option.some.injEq] at hq
    subst hq
    exact .inl ⟨ho, Int.le_refl _⟩
  · rw [cnt_app, ho]
    have := h.cnt
    simp
    omega
  · rw [cnt_app, ho]
    have := h.oth
    cases cur <;> simp at this ⊢ <;> exact this
  · rw [cnt_app, ho, e]
    have := h.ft e
    simp [this]
  · rcases List.mem_append.1 hq with hq | hq
    · exact h.rng q hq
    · rw [List.mem_singleton] at hq; subst hq; omega
theorem MI.fin {n x y : Int} {M : List Pen} (h : MI false n M) (hx : 0 ≤ x ∧ x ≤ 1152921504606846975) (hy : 0 ≤ y ∧ y ≤ 1152921504606846975) : Snd x y M ∧ Rng M ∧ M.length ≤ 86 := by
  have hc := h.cnt
  have hn := h.nn
  have ho := h.oth
  have hb := cnt_both M
  have e1 : amB x = true := by unfold amB; rw [decide_eq_false (by omega), decide_eq_false (by omega)]; rfl
  have e2 : amB y = true := by unfold amB; rw [decide_eq_false (by omega), decide_eq_false (by omega)]; rfl
  exact ⟨⟨⟨e1, e2⟩, h.good, by show cntP true M ≤ 483; have : cntP true M ≤ 43 := ho; omega, by omega⟩, fun p hp => by have := h.rng p hp; omega, by have : cntP true M ≤ 43 := ho; omega⟩
set_option maxRecDepth 100000 in
theorem built_p4 (o : Bool) (i a : Int) (h : Nat → UInt8) : Try.prog.built 36 [(0, .bool o), (1, .int .i64 i), (2, .int .i64 a), (3, .agg (tabv (bv h) 32))] = some (tabv (⟨o, i, a, h⟩ : Pen).v 35) := by kernel_rfl
/-- made's ledger under way. -/
structure MT (V : World) (g3 : Nat) (X Y : Int) (cur : Bool) (n : Int) (wr : World) (v : Value) (M : List Pen) : Prop where
  at_ : Has wr g3 24 (ledv X Y v) 3
  row : OwnP V.heap.size wr v M
  kp : Keep (· = g3) V wr
  mi : MI cur n M
theorem MT.below {V : World} {g3 : Nat} {X Y : Int} {cur : Bool} {n : Int} {wr w' : World} {v : Value} {M : List Pen} (h : MT V g3 X Y cur n wr v M) (hb : Below wr.heap.size wr w') : MT V g3 X Y cur n w' v M :=
  ⟨h.at_.below hb h.at_.lt, h.row.below hb, h.kp.then_ (hb.mono h.kp.size), h.mi⟩
/-- What made answers. -/
def MdPost (w : World) (e : Ending) (w' : World) : Prop := ∃ (X Y : Int) (v : Value) (M : List Pen), e = .returned (.agg (tabv (ledv X Y v) 3)) ∧ OwnP w.heap.size w' v M ∧ Snd X Y M ∧ Rng M ∧ M.length ≤ 86 ∧ Below w.heap.size w w'
theorem mdPost {w : World} {e : Ending} {w' : World} (X Y : Int) (v : Value) (M : List Pen) (he : e = .returned (.agg (tabv (ledv X Y v) 3))) (hO : OwnP w.heap.size w' v M) (hs : Snd X Y M ∧ Rng M ∧ M.length ≤ 86) (hb : Below w.heap.size w w') : MdPost w e w' := ⟨X, Y, v, M, he, hO, hs.1, hs.2.1, hs.2.2, hb⟩
theorem MT.turned {V : World} {g3 : Nat} {X Y : Int} {n : Int} {wr : World} {v : Value} {M : List Pen} (h : MT V g3 X Y true n wr v M) : MT V g3 X Y false 0 wr v M := ⟨h.at_, h.row, h.kp, h.mi.turn⟩
set_option maxRecDepth 100000 in
set_option maxHeartbeats 4000000 in
theorem made_any (x y : Int) (ad1 : Option Addr) (n c1 : Nat) (l : List Pen) (hn : l.length = n) (w : World) (h1 : Pens w ad1 l) (hz : n ≤ 3910000000000) : Calls Try.prog 4 #[.agg (tabv (ledv x y (.slice ad1 n c1)) 3)] w fun e w' => MdPost w e w' := by
  have hni : (n : Int) ≤ 9223372036854775807 := by omega
  obtain ⟨X, hX⟩ : ∃ X, bits .and .i64 x 1152921504606846975 = X := ⟨_, rfl⟩
  obtain ⟨Y, hY⟩ : ∃ Y, bits .and .i64 y 1152921504606846975 = Y := ⟨_, rfl⟩
  have HXB : Hid (0 ≤ X ∧ X ≤ 1152921504606846975) := by rw [← hX]; exact and_mask x 1152921504606846975 (by omega)
  have HYB : Hid (0 ≤ Y ∧ Y ≤ 1152921504606846975) := by rw [← hY]; exact and_mask y 1152921504606846975 (by omega)
  obtain ⟨V1, hV1⟩ : ∃ z, w.alloc (.cells (tabv (ledv x y (.slice ad1 n c1)) 3) 24) = z := ⟨_, rfl⟩
  obtain ⟨V2, hV2⟩ : ∃ z, V1.alloc (.cells #[.int .i64 0, .int .i64 0, .slice none 0 0] 24) = z := ⟨_, rfl⟩
  obtain ⟨V3, hV3⟩ : ∃ z, V2.alloc (.cells #[.int .i64 0, .int .i64 0, .slice none 0 0] 24) = z := ⟨_, rfl⟩
  obtain ⟨V4, hV4⟩ : ∃ z, V3.setRow V2.heap.size (tabv (ledv X Y (.slice none 0 0)) 3) = z := ⟨_, rfl⟩
  have k1 : Has V1 w.heap.size 24 (ledv x y (.slice ad1 n c1)) 3 := by rw [← hV1]; exact Has.new w 24 _ 3 _ rfl
  have b1 : Below w.heap.size w V1 := by rw [← hV1]; exact (Below.refl _ _).alloc (Nat.le_refl _) _
  have b2 : Below V1.heap.size V1 V2 := by rw [← hV2]; exact (Below.refl _ _).alloc (Nat.le_refl _) _
  have b3 : Below V2.heap.size V2 V3 := by rw [← hV3]; exact (Below.refl _ _).alloc (Nat.le_refl _) _
  have k2 : Has V2 V1.heap.size 24 (ledv 0 0 (.slice none 0 0)) 3 := by rw [← hV2, zeroL]; exact Has.new V1 24 _ 3 _ rfl
  have k3 : Has V3 V2.heap.size 24 (ledv 0 0 (.slice none 0 0)) 3 := by rw [← hV3, zeroL]; exact Has.new V2 24 _ 3 _ rfl
  have b4 : Below V2.heap.size V2 V4 := by rw [← hV4]; exact below_setRow b3 (Nat.le_refl _) _
  have k4 : Has V4 V2.heap.size 24 (ledv X Y (.slice none 0 0)) 3 := by rw [← hV4]; exact k3.row _ _ rfl
  have l1 := k1.lt
  have l2 := k2.lt
  have l3 := k4.lt
  have q1 := (k1.below b2 k1.lt).below b4 (Nat.lt_of_lt_of_le k1.lt b2.size)
  have p1 : Has V3 w.heap.size 24 (ledv x y (.slice ad1 n c1)) 3 := (k1.below b2 k1.lt).below b3 (Nat.lt_of_lt_of_le k1.lt b2.size)
  have q2 := k2.below b4 k2.lt
  have gb4 : Below w.heap.size w V4 := (b1.trans (b2.mono b1.size)).trans (b4.mono (Nat.le_trans b1.size b2.size))
  obtain ⟨g1, hg1⟩ : ∃ g, w.heap.size = g := ⟨_, rfl⟩
  obtain ⟨g2, hg2⟩ : ∃ g, V1.heap.size = g := ⟨_, rfl⟩
  obtain ⟨g3, hg3⟩ : ∃ g, V2.heap.size = g := ⟨_, rfl⟩
  rw [hg1] at q1 p1
  rw [hg2] at q2
  rw [hg3] at k3 k4 hV4
  have a0 : V2.cell? ⟨g1, 0, none⟩ = some (.int .i64 x) := (by have := (k1.below b2 k1.lt).cell 0 (by omega); rw [hg1] at this; exact this)
  have a1 : V2.cell? ⟨g1, 1, none⟩ = some (.int .i64 y) := (by have := (k1.below b2 k1.lt).cell 1 (by omega); rw [hg1] at this; exact this)
  have NE : Hid (g1 < g2 ∧ g2 < g3 ∧ g3 < V4.heap.size ∧ g1 = w.heap.size) := by show _ ∧ _; omega
  have K3 := hide k3
  have Q1 := hide q1
  have Q2 := hide q2
  have HN := hide hn
  have HZ := hide hz
  have MT0 : MT V4 g3 X Y true 0 V4 (.slice none 0 0) [] := ⟨k4, OwnP.nil _ _, Keep.refl _ _, MI.start⟩
  have M0 := hide MT0
  clear MT0
  clear k1 b1 b2 b3 k2 k3 b4 k4 l1 l2 l3 q1 q2 p1 hn hz
  go_enter Try.func4, Try.ntmps4
  go_wp2_with (first | refine wpW_build (by rfl) 24 #[(0, .tmp 10), (1, .tmp 13)] rfl [(0, .int .i64 X), (1, .int .i64 Y)] (by first | rfl | (simp [Act.eval, Act.put]; done)) _ (built_turn X Y) ?_ | refine wpList_storeL rfl _ _ rfl rfl g3 X Y (.slice none 0 0) rfl rfl rfl _ K3.out ?_)
  clear a0 a1 hX hY
  go_loopw [4] (fun k wr => ∃ kk : Nat, kk ≤ 2 ∧ k = .int .i64 (kk : Int) ∧ ((kk = 0 ∧ MT V4 g3 X Y true 0 wr (.slice none 0 0) []) ∨ (kk = 1 ∧ ∃ v M, MT V4 g3 X Y false 0 wr v M) ∨ (kk = 2 ∧ ∃ nn v M, MT V4 g3 X Y false nn wr v M))) (fun k _ => 2 - (intOf k).toNat)
  case atStart => exact ⟨0, by omega, rfl, .inl ⟨rfl, by rw [hV4]; exact M0.out⟩⟩
  case round =>
    obtain ⟨kk, hkk, rfl, hK⟩ := hrel
    clear M0
    rcases hK with ⟨rfl, hM⟩ | ⟨rfl, v0, M0, hM⟩ | ⟨rfl, nn, v3, M3, hM⟩
    · have HM := hide hM
      clear hM
      rw [show ((0 : Nat) : Int) = 0 from rfl]
      go_wp2
      go_loopw [5, 6] (fun nx ix wr => ∃ (j : Nat) (nn : Int) (v : Value) (M : List Pen), j ≤ n ∧ ix = .int .i64 (j : Int) ∧ nx = .int .i64 nn ∧ Hid (MT V4 g3 X Y true nn wr v M)) (fun _ ix _ => n - (intOf ix).toNat)
      case atStart => exact ⟨0, 0, _, _, Nat.zero_le _, rfl, rfl, HM.out⟩
      case round =>
        obtain ⟨j, nn, v3, M3, hj, rfl, rfl, HT⟩ := hrel
        have A2 : wr.cell? ⟨g1, 2, none⟩ = some (.slice ad1 n c1) := (Q1.out.keep HT.out.kp (fun e => by have := NE.out; omega)).cell 2 (by omega)
        have gbr : Below w.heap.size w wr := gb4.trans (HT.out.kp.below gb4.size (fun k hk e => by have := NE.out; omega))
        have h1' : Pens wr ad1 l := h1.below gbr
        have hnn := HT.out.mi.nn
        have HNN := hide hnn
        have hnn0 : 0 ≤ nn := hnn.1
        have hnn1 : nn ≤ 43 := hnn.2
        clear hnn
        by_cases hlt : j < n
        · have hd : decide ((j : Int) < (n : Int)) = true := decide_eq_true (by omega)
          have hd2 : decide (j < n) = true := decide_eq_true hlt
          by_cases hn4 : nn < 40
          · have hd4 : decide (nn < 40) = true := decide_eq_true hn4
            have HN4 := hide hn4
            have hk0 : (0 : Int) ≤ (j : Int) := by omega
            have hk1 : (j : Int) < (n : Int) := by omega
            obtain ⟨s, hs⟩ : ∃ s, l[j]? = some s := ⟨_, List.getElem?_eq_getElem (by rw [HN.out]; exact hlt)⟩
            obtain ⟨b, o, rfl, hb1, hA⟩ := h1'.get j s hs
            have HA := hide hA
            have HJ := hide hlt
            obtain ⟨w6, w7, hW6, q1, hW7, r1, rb⟩ := newP wr s
            have Q6 := hide q1
            have R7 := hide r1
            have HM7 := hide (HT.out.below rb)
            have hgs : V4.heap.size ≤ wr.heap.size := HT.out.kp.size
            have hov : Hid (∀ k, v3.ownBlock = some k → V4.heap.size ≤ k ∧ k < wr.heap.size) := fun k hk => HT.out.row.lt k hk
            obtain ⟨so, hso⟩ : ∃ x, s.ours = x := ⟨_, rfl⟩
            have HSO := hide hso
            have c0 : w7.cell? ⟨wr.heap.size, 0, none⟩ = some (.bool so) := by rw [← hso]; exact r1.cell 0 (by omega)
            have c1' : w7.cell? ⟨wr.heap.size, 1, none⟩ = some (.int .i64 s.id) := r1.cell 1 (by omega)
            have c2' : w7.cell? ⟨wr.heap.size, 2, none⟩ = some (.int .i64 s.amt) := r1.cell 2 (by omega)
            have AH := hide r1.at_hashP
            have zf := r1.frozen 0
            clear hs hA q1 r1 hb1 hso hlt hn4
            go_upto_region 10 with (first | refine wpW_load_at 36 _ rfl (b) (o + j * 35) (by rfl) (by rfl) _ 35 _ (HA.out) Try.underlying36 rfl infoP ?_ | refine wpList_storeP rfl _ _ rfl rfl (wr.heap.size) (s) rfl rfl _ Q6.out ?_)
            try rw [hW7]
            generalize hgP : wr.heap.size = gP at Q6 R7 c0 c1' c2' AH hgs hov ⊢
            clear hgP hW6 hW7 Q6
            cases so with
            | false =>
              go_wp2
              go_roundw
              case rel => first | exact ⟨j + 1, nn, v3, M3, by have := HJ.out; omega, by go_num, rfl, HM7.out⟩ | exact ⟨v3, M3, j + 1, by have := HJ.out; omega, by go_num, HM7.out⟩ | exact ⟨j + 1, v3, M3, by have := HJ.out; omega, by go_num, HM7.out⟩ | (trace_state; fail)
              case measure => have := HJ.out; simp [intOf]; omega
            | true =>
              obtain ⟨d3, hd3⟩ : ∃ d, bits .and .i64 s.id 3 = d := ⟨_, rfl⟩
              have hd3b : 0 ≤ d3 ∧ d3 ≤ 3 := by rw [← hd3]; exact and_mask s.id 3 (by omega)
              obtain ⟨am, ham⟩ : ∃ d, bits .and .i64 s.amt 576460752303423487 = d := ⟨_, rfl⟩
              have hamb : 0 ≤ am ∧ am ≤ 576460752303423487 := by rw [← ham]; exact and_mask s.amt 576460752303423487 (by omega)
              have z1 : IntKind.i64.wrap (nn + 1) = nn + 1 := by rw [IntKind.wrap_i64]; omega
              have z2 : IntKind.i64.wrap (nn + 1 + d3) = nn + 1 + d3 := by rw [IntKind.wrap_i64]; omega
              have z3 : IntKind.i64.wrap (1 + am) = 1 + am := by rw [IntKind.wrap_i64]; omega
              obtain ⟨pN, hpN⟩ : ∃ p : Pen, p = ⟨true, nn + 1 + d3, 1 + am, s.hash⟩ := ⟨_, rfl⟩
              have HPN := hide hpN
              have mi' := HM7.out.mi.add HN4.out (p := pN) (by rw [hpN]) (by rw [hpN]; show nn < nn + 1 + d3; omega) (by rw [hpN]; show nn + 1 + d3 ≤ nn + 4; omega) (by rw [hpN]; show 1 ≤ 1 + am; omega) (by rw [hpN]; show 1 + am ≤ _; omega)
              have hlM : M3.length ≤ 86 := by
                have hb := cnt_both M3
                have := HM7.out.mi.cnt; have h43 := HM7.out.mi.oth; have := HM7.out.mi.nn
                have h0 := HM7.out.mi.ft rfl; omega
              obtain ⟨v', w8a, w9, rS, rA, oA, gr, bA⟩ := run_appPW w7 V4.heap.size v3 M3 pN HM7.out.row (by omega) HM7.out.kp.size
              obtain ⟨adv, nv, cv, hvv⟩ := oA.form
              subst hvv
              have RS := hide rS
              have RA := hide rA
              have e3 : w7.cell? ⟨g3, 2, none⟩ = some v3 := HM7.out.at_.cell 2 (by omega)
              have k9 : Has w9 g3 24 (ledv X Y v3) 3 := HM7.out.at_.same (gr g3 HM7.out.at_.lt (fun e => by have := hov.out g3 e; have := NE.out; omega))
              have c9 : w9.cell? ⟨g3, 2, none⟩ = some v3 := k9.cell 2 (by omega)
              have zf3 := k9.frozen 2
              obtain ⟨wB, hWB⟩ : ∃ z, w9.setCell ⟨g3, 2, none⟩ (.slice adv nv cv) = z := ⟨_, rfl⟩
              have kxB : Keep (· = g3) w9 wB := by rw [← hWB]; exact keep_set _ _ _ _ rfl
              have HMN : Hid (MT V4 g3 X Y true (nn + 1 + d3) wB (.slice adv nv cv) (M3 ++ [pN])) := by
                have e : pN.id = nn + 1 + d3 := by rw [hpN]
                rw [e] at mi'
                exact ⟨by rw [← hWB]; exact k9.openL _, oA.same fun k hk => kxB.block k (oA.lt k hk).2 (fun e => by have := (oA.lt k hk).1; have := NE.out; omega), (HM7.out.kp.then_ bA).trans kxB, mi'⟩
              have BP : Hid (Try.prog.built 36 [(0, .bool true), (1, .int .i64 (nn + 1 + d3)), (2, .int .i64 (1 + am)), (3, .agg (tabv (bv s.hash) 32))] = some (tabv pN.v 35)) := by rw [hpN]; exact built_p4 _ _ _ _
              have oneV3 := HM7.out.row.one
              clear rS rA oA gr bA mi' hlM k9 hpN hd3b hamb
              go_wp2_with (first | refine wpW_load_at 30 _ rfl (gP) (3) (by rfl) (by rfl) _ 32 _ (AH.out) Try.underlying30 rfl info26 ?_ | refine wpW_build (by rfl) 36 #[(0, .tmp 49), (1, .tmp 50), (2, .tmp 54), (3, .tmp 56)] rfl [(0, .bool true), (1, .int .i64 (nn + 1 + d3)), (2, .int .i64 (1 + am)), (3, .agg (tabv (bv s.hash) 32))] (by first | rfl | (simp [Act.eval, Act.put]; done)) _ BP.out ?_ | refine wpList_slice1 rfl 22 _ rfl (.agg (tabv pN.v 35)) rfl RS.out ?_ | refine wpList_app rfl _ _ _ rfl RA.out ?_)
              go_roundw
              case rel => first | exact ⟨j + 1, nn + 1 + d3, _, _, by have := HJ.out; omega, by go_num, rfl, HMN.out⟩ | exact ⟨_, _, j + 1, by have := HJ.out; omega, by go_num, HMN.out⟩ | exact ⟨j + 1, _, _, by have := HJ.out; omega, by go_num, HMN.out⟩ | (trace_state; fail)
              case measure => have := HJ.out; simp [intOf]; omega
          · have hd4 : decide (nn < 40) = false := decide_eq_false hn4
            go_wp2
            go_roundw
            case rel => exact ⟨1, by omega, by go_num, .inr (.inl ⟨rfl, _, _, HT.out.turned⟩)⟩
            case measure => simp [intOf]
        · have hd : decide ((j : Int) < (n : Int)) = false := decide_eq_false (by omega)
          have hd2 : decide (j < n) = false := decide_eq_false hlt
          go_wp2
          go_roundw
          case rel => exact ⟨1, by omega, by go_num, .inr (.inl ⟨rfl, _, _, HT.out.turned⟩)⟩
          case measure => simp [intOf]
    · have HM := hide hM
      clear hM
      rw [show ((1 : Nat) : Int) = 1 from rfl]
      go_wp2
      go_loopw [5, 6] (fun nx ix wr => ∃ (j : Nat) (nn : Int) (v : Value) (M : List Pen), j ≤ n ∧ ix = .int .i64 (j : Int) ∧ nx = .int .i64 nn ∧ Hid (MT V4 g3 X Y false nn wr v M)) (fun _ ix _ => n - (intOf ix).toNat)
      case atStart => exact ⟨0, 0, _, _, Nat.zero_le _, rfl, rfl, HM.out⟩
      case round =>
        obtain ⟨j, nn, v3, M3, hj, rfl, rfl, HT⟩ := hrel
        have A2 : wr.cell? ⟨g1, 2, none⟩ = some (.slice ad1 n c1) := (Q1.out.keep HT.out.kp (fun e => by have := NE.out; omega)).cell 2 (by omega)
        have gbr : Below w.heap.size w wr := gb4.trans (HT.out.kp.below gb4.size (fun k hk e => by have := NE.out; omega))
        have h1' : Pens wr ad1 l := h1.below gbr
        have hnn := HT.out.mi.nn
        have HNN := hide hnn
        have hnn0 : 0 ≤ nn := hnn.1
        have hnn1 : nn ≤ 43 := hnn.2
        clear hnn
        by_cases hlt : j < n
        · have hd : decide ((j : Int) < (n : Int)) = true := decide_eq_true (by omega)
          have hd2 : decide (j < n) = true := decide_eq_true hlt
          by_cases hn4 : nn < 40
          · have hd4 : decide (nn < 40) = true := decide_eq_true hn4
            have HN4 := hide hn4
            have hk0 : (0 : Int) ≤ (j : Int) := by omega
            have hk1 : (j : Int) < (n : Int) := by omega
            obtain ⟨s, hs⟩ : ∃ s, l[j]? = some s := ⟨_, List.getElem?_eq_getElem (by rw [HN.out]; exact hlt)⟩
            obtain ⟨b, o, rfl, hb1, hA⟩ := h1'.get j s hs
            have HA := hide hA
            have HJ := hide hlt
            obtain ⟨w6, w7, hW6, q1, hW7, r1, rb⟩ := newP wr s
            have Q6 := hide q1
            have R7 := hide r1
            have HM7 := hide (HT.out.below rb)
            have hgs : V4.heap.size ≤ wr.heap.size := HT.out.kp.size
            have hov : Hid (∀ k, v3.ownBlock = some k → V4.heap.size ≤ k ∧ k < wr.heap.size) := fun k hk => HT.out.row.lt k hk
            obtain ⟨so, hso⟩ : ∃ x, s.ours = x := ⟨_, rfl⟩
            have HSO := hide hso
            have c0 : w7.cell? ⟨wr.heap.size, 0, none⟩ = some (.bool so) := by rw [← hso]; exact r1.cell 0 (by omega)
            have c1' : w7.cell? ⟨wr.heap.size, 1, none⟩ = some (.int .i64 s.id) := r1.cell 1 (by omega)
            have c2' : w7.cell? ⟨wr.heap.size, 2, none⟩ = some (.int .i64 s.amt) := r1.cell 2 (by omega)
            have AH := hide r1.at_hashP
            have zf := r1.frozen 0
            clear hs hA q1 r1 hb1 hso hlt hn4
            go_upto_region 10 with (first | refine wpW_load_at 36 _ rfl (b) (o + j * 35) (by rfl) (by rfl) _ 35 _ (HA.out) Try.underlying36 rfl infoP ?_ | refine wpList_storeP rfl _ _ rfl rfl (wr.heap.size) (s) rfl rfl _ Q6.out ?_)
            try rw [hW7]
            generalize hgP : wr.heap.size = gP at Q6 R7 c0 c1' c2' AH hgs hov ⊢
            clear hgP hW6 hW7 Q6
            cases so with
            | true =>
              go_wp2
              go_roundw
              case rel => first | exact ⟨j + 1, nn, v3, M3, by have := HJ.out; omega, by go_num, rfl, HM7.out⟩ | exact ⟨v3, M3, j + 1, by have := HJ.out; omega, by go_num, HM7.out⟩ | exact ⟨j + 1, v3, M3, by have := HJ.out; omega, by go_num, HM7.out⟩ | (trace_state; fail)
              case measure => have := HJ.out; simp [intOf]; omega
            | false =>
              obtain ⟨d3, hd3⟩ : ∃ d, bits .and .i64 s.id 3 = d := ⟨_, rfl⟩
              have hd3b : 0 ≤ d3 ∧ d3 ≤ 3 := by rw [← hd3]; exact and_mask s.id 3 (by omega)
              obtain ⟨am, ham⟩ : ∃ d, bits .and .i64 s.amt 576460752303423487 = d := ⟨_, rfl⟩
              have hamb : 0 ≤ am ∧ am ≤ 576460752303423487 := by rw [← ham]; exact and_mask s.amt 576460752303423487 (by omega)
              have z1 : IntKind.i64.wrap (nn + 1) = nn + 1 := by rw [IntKind.wrap_i64]; omega
              have z2 : IntKind.i64.wrap (nn + 1 + d3) = nn + 1 + d3 := by rw [IntKind.wrap_i64]; omega
              have z3 : IntKind.i64.wrap (1 + am) = 1 + am := by rw [IntKind.wrap_i64]; omega
              obtain ⟨pN, hpN⟩ : ∃ p : Pen, p = ⟨false, nn + 1 + d3, 1 + am, s.hash⟩ := ⟨_, rfl⟩
              have HPN := hide hpN
              have mi' := HM7.out.mi.add HN4.out (p := pN) (by rw [hpN]) (by rw [hpN]; show nn < nn + 1 + d3; omega) (by rw [hpN]; show nn + 1 + d3 ≤ nn + 4; omega) (by rw [hpN]; show 1 ≤ 1 + am; omega) (by rw [hpN]; show 1 + am ≤ _; omega)
              have hlM : M3.length ≤ 86 := by
                have hb := cnt_both M3
                have := HM7.out.mi.cnt; have h43 := HM7.out.mi.oth; have := HM7.out.mi.nn
                have h1 : cntP true M3 ≤ 43 := h43; omega
              obtain ⟨v', w8a, w9, rS, rA, oA, gr, bA⟩ := run_appPW w7 V4.heap.size v3 M3 pN HM7.out.row (by omega) HM7.out.kp.size
              obtain ⟨adv, nv, cv, hvv⟩ := oA.form
              subst hvv
              have RS := hide rS
              have RA := hide rA
              have e3 : w7.cell? ⟨g3, 2, none⟩ = some v3 := HM7.out.at_.cell 2 (by omega)
              have k9 : Has w9 g3 24 (ledv X Y v3) 3 := HM7.out.at_.same (gr g3 HM7.out.at_.lt (fun e => by have := hov.out g3 e; have := NE.out; omega))
              have c9 : w9.cell? ⟨g3, 2, none⟩ = some v3 := k9.cell 2 (by omega)
              have zf3 := k9.frozen 2
              obtain ⟨wB, hWB⟩ : ∃ z, w9.setCell ⟨g3, 2, none⟩ (.slice adv nv cv) = z := ⟨_, rfl⟩
              have kxB : Keep (· = g3) w9 wB := by rw [← hWB]; exact keep_set _ _ _ _ rfl
              have HMN : Hid (MT V4 g3 X Y false (nn + 1 + d3) wB (.slice adv nv cv) (M3 ++ [pN])) := by
                have e : pN.id = nn + 1 + d3 := by rw [hpN]
                rw [e] at mi'
                exact ⟨by rw [← hWB]; exact k9.openL _, oA.same fun k hk => kxB.block k (oA.lt k hk).2 (fun e => by have := (oA.lt k hk).1; have := NE.out; omega), (HM7.out.kp.then_ bA).trans kxB, mi'⟩
              have BP : Hid (Try.prog.built 36 [(0, .bool false), (1, .int .i64 (nn + 1 + d3)), (2, .int .i64 (1 + am)), (3, .agg (tabv (bv s.hash) 32))] = some (tabv pN.v 35)) := by rw [hpN]; exact built_p4 _ _ _ _
              have oneV3 := HM7.out.row.one
              clear rS rA oA gr bA mi' hlM k9 hpN hd3b hamb
              go_wp2_with (first | refine wpW_load_at 30 _ rfl (gP) (3) (by rfl) (by rfl) _ 32 _ (AH.out) Try.underlying30 rfl info26 ?_ | refine wpW_build (by rfl) 36 #[(0, .tmp 49), (1, .tmp 50), (2, .tmp 54), (3, .tmp 56)] rfl [(0, .bool false), (1, .int .i64 (nn + 1 + d3)), (2, .int .i64 (1 + am)), (3, .agg (tabv (bv s.hash) 32))] (by first | rfl | (simp [Act.eval, Act.put]; done)) _ BP.out ?_ | refine wpList_slice1 rfl 22 _ rfl (.agg (tabv pN.v 35)) rfl RS.out ?_ | refine wpList_app rfl _ _ _ rfl RA.out ?_)
              go_roundw
              case rel => first | exact ⟨j + 1, nn + 1 + d3, _, _, by have := HJ.out; omega, by go_num, rfl, HMN.out⟩ | exact ⟨_, _, j + 1, by have := HJ.out; omega, by go_num, HMN.out⟩ | exact ⟨j + 1, _, _, by have := HJ.out; omega, by go_num, HMN.out⟩ | (trace_state; fail)
              case measure => have := HJ.out; simp [intOf]; omega
          · have hd4 : decide (nn < 40) = false := decide_eq_false hn4
            go_wp2
            go_roundw
            case rel => exact ⟨2, by omega, by go_num, .inr (.inr ⟨rfl, _, _, _, HT.out⟩)⟩
            case measure => simp [intOf]
        · have hd : decide ((j : Int) < (n : Int)) = false := decide_eq_false (by omega)
          have hd2 : decide (j < n) = false := decide_eq_false hlt
          go_wp2
          go_roundw
          case rel => exact ⟨2, by omega, by go_num, .inr (.inr ⟨rfl, _, _, _, HT.out⟩)⟩
          case measure => simp [intOf]
    · have q2r := Q2.out.keep hM.kp (fun e => by have := NE.out; omega)
      have gbr : Below w.heap.size w wr := gb4.trans (hM.kp.below gb4.size (fun k hk e => by have := NE.out; omega))
      have kxF : Keep (· = g2) wr (wr.setRow g2 (tabv (ledv X Y v3) 3)) := ⟨rfl, rfl, rfl, by simp, fun k hk hne => setRow_other wr g2 k _ hne⟩
      have oF : OwnP V4.heap.size (wr.setRow g2 (tabv (ledv X Y v3) 3)) v3 M3 := hM.row.same fun k hk => kxF.block k (hM.row.lt k hk).2 (fun e => by have := (hM.row.lt k hk).1; have := NE.out; omega)
      have K3r := hide hM.at_
      have Q2r := hide q2r
      have oneV := hM.row.one
      have HF := hide (hM.mi.fin HXB.out HYB.out)
      clear q2r hM
      rw [show ((2 : Nat) : Int) = 2 from rfl]
      go_wp2_with (first | refine wpW_load_at 24 _ rfl (g3) (0) (by rfl) (by rfl) _ 3 _ (K3r.out.at_ 0 (by omega) (fun i hi => by rw [Nat.zero_add])) Try.underlying24 rfl infoL ?_ | refine wpList_storeL rfl _ _ rfl rfl g2 X Y v3 oneV rfl rfl _ Q2r.out ?_)
      exact bodyPost_ret (results_cell_row rfl _ _ g2 24 _ (0, 0) _ rfl (Q2r.out.row _ (ledv X Y v3) rfl) Try.underlying24 rfl (by rw [tabv_size]; exact infoL)) rfl (mdPost X Y v3 M3 rfl (oF.mono gb4.size) HF.out (below_setRow gbr (by have := NE.out; omega) _))
end Go.Proofs.Ythmbpddpdbkioaa
