import Derived.Test.YtlohfoggcdaeiaaGreatRCame
import Derived.Deep.DeepCutAuto
import Derived.Deep.Cut
/-
  fields of the kinds 1 and 3, and of all (printed by gen_r21.py).
-/
namespace Go.Proofs.YtlohfoggcdaeiaaGreat
open Go.RowKit S
set_option linter.unusedVariables false
set_option linter.unusedSimpArgs false
open Cu (nb be hl ofL CW Mw CR Mr RS takeS takeA hOf nil8 doneS)
theorem FldP.rep {B : Nat} {R : Option (Rc × List Upd)} {e : Ending} {w : World} (h : FldP B R e w) : ∃ (rr : Rc) (bb : Bool), e = .returned (.tuple #[.agg (tabv rr.v 138), .bool bb]) ∧ ∀ (w' : World) (B' : Nat), B' ≤ B → (∀ k, B ≤ k → w'.heap[k]? = w.heap[k]?) → FldP B' R (.returned (.tuple #[.agg (tabv rr.v 138), .bool bb])) w' := by
  cases R with
  | none =>
    obtain ⟨r, rfl⟩ := h
    exact ⟨r, false, rfl, fun _ _ _ _ => ⟨r, rfl⟩⟩
  | some p =>
    obtain ⟨r, l⟩ := p
    obtain ⟨x, rfl, hO⟩ := h
    exact ⟨setU r x, true, rfl, fun w' B' hB he => ⟨x, rfl, (hO.same (fun k hk => he k (hO.lt k hk).1)).mono hB⟩⟩
set_option maxRecDepth 100000 in
set_option maxHeartbeats 40000000 in
theorem fields_1 (b : ByteArray) (w : World) (hk : (Cu.num 1 (b, 0) : Int) = 1) (hb : b.size ≤ 140737490000000) (h1 : 1 ≤ b.size) : Calls Tryz.prog 33 #[.string b] w fun e w' => FldP w.heap.size (fldOurs b) e w' ∧ Below w.heap.size w w' := by
  obtain ⟨w1, hW1⟩ : ∃ w1, w.alloc (.cells Tryz.zeroCells38 38) = w1 := ⟨_, rfl⟩
  have r1 : Has w1 w.heap.size 38 Rc.zero.v 138 := by rw [← hW1, zeroRc]; exact Has.new w 38 Rc.zero.v 138 _ rfl
  have b1 : Below w.heap.size w w1 := by rw [← hW1]; exact (Below.refl w.heap.size w).alloc (Nat.le_refl _) _
  go_enter Tryz.func33, Tryz.ntmps33
  go_wp2_with fail
  refine (Cu.rOpen b _).mono ?_
  rintro e w2 ⟨rfl, hC2, hb2, hs2⟩
  obtain ⟨p, hp⟩ : ∃ p, w1.heap.size = p := ⟨_, rfl⟩
  rw [hp] at hC2 ⊢
  have hgp : w.heap.size < p := by rw [← hp]; exact r1.lt
  have q1 := r1.below hb2 r1.lt
  have g2 : Below w.heap.size w w2 := b1.trans (hb2.mono b1.size)
  clear hW1 r1 b1 hb2 hs2 hp
  go_wp2_with fail
  refine (Cu.rU8 p (b, 0) _ hC2).mono ?_
  rintro e w3 ⟨rfl, hC3, hM3⟩
  have q3 := q1.mr hM3 (by omega)
  have g3 : Below w.heap.size w w3 := g2.trans (hM3.below (by omega) g2.size)
  obtain ⟨kn, hkn⟩ : ∃ kn, Cu.num 1 (b, 0) = kn := ⟨_, rfl⟩
  have hkl : kn < 256 := by rw [← hkn]; exact num1_le _
  rw [show be (takeA 1 (b, 0)).data.toList = kn from hkn]
  obtain ⟨st, hst⟩ : ∃ st, takeS 1 (b, 0) = st := ⟨_, rfl⟩
  rw [hst] at hC3
  have KC := hide (conv8i kn hkl)
  obtain ⟨w4, w5, hW4, q4, hW5, q5, b5⟩ := newRc w3 ⟨(kn : Int), Upd.zero, nilS, 0, 0, 0, z32, z32, z32, 0⟩
  have Q4 := hide q4
  have F5 : Hid (FB w p w3.heap.size st ⟨(kn : Int), Upd.zero, nilS, 0, 0, 0, z32, z32, z32, 0⟩ w5) := ⟨hC3.same (b5.block p hC3.lt), q3.below b5 q3.lt, q5, g3.trans (b5.mono g3.size), hgp, hC3.lt⟩
  have HKK : Hid ((kn : Int) = 1) := by show _ = _; rw [← hkn]; exact hk
  clear hk hkn hst hC2 hC3 hM3 q1 q3 g2 g3 q4 q5 b5
  go_upto_region 3 with (first | rw [hW5] | refine Cu.wpList_conv rfl _ _ _ rfl .u8 .i64 (kn : Int) (kn : Int) (by rfl) (KC.out _) ?_ | refine wpW_build (by rfl) 38 #[(0, .tmp 10)] rfl [(0, .int .i64 (kn : Int))] (by first | rfl | (simp [Act.eval, Act.put]; done)) _ (builtRK (kn : Int)) ?_ | refine wpList_storeRc rfl _ _ rfl rfl (w3.heap.size) (⟨(kn : Int), Upd.zero, nilS, 0, 0, 0, z32, z32, z32, 0⟩) rfl rfl _ Q4.out ?_ | fail)
  try rw [hW5]
  generalize hg5 : w3.heap.size = g5 at F5 ⊢
  clear hW4 hW5 hg5 Q4 KC
  obtain ⟨K, hKn⟩ : ∃ K : Int, (kn : Int) = K := ⟨_, rfl⟩
  rw [hKn] at F5 HKK ⊢
  have hK0 : 0 ≤ K ∧ K < 256 := by omega
  clear hKn hkl
  have c0 : w5.cell? ⟨g5, 0, none⟩ = some (.int .i64 K) := F5.out.var.cell 0 (by omega)
  have hK1 : K = 1 := HKK.out
  subst hK1
  clear HKK hK0
  go_wp2_with fail
  refine (oursFields_any b _ h1 hb).mono ?_
  rintro e w6 ⟨hP, hb6⟩
  obtain ⟨rr, bb, rfl, hPP⟩ := hP.rep
  have hR6 := F5.out.res.below hb6 F5.out.res.lt
  have hB6 : Below w.heap.size w w6 := F5.out.bel.trans (hb6.mono F5.out.bel.size)
  have hlt := F5.out.res.lt
  have K8 := hide hR6
  have HP := hide hPP
  clear hb6 hP hPP c0 F5
  go_wp2_with (first | refine wpList_storeRc rfl _ _ rfl rfl (w.heap.size) (rr) rfl rfl _ K8.out ?_ | fail)
  (try simp only [Exit.inBlock, Exit.then])
  exact bodyPost_ret (resRcB _ w.heap.size _ _ (.bool bb) 2 3 (K8.out.row _ rr.v rfl) rfl rfl _ rfl) rfl ⟨HP.out _ _ (by omega) (fun k hk => setRow_other _ _ _ _ (by omega)), below_setRow hB6 (Nat.le_refl _) _⟩
set_option maxRecDepth 100000 in
set_option maxHeartbeats 40000000 in
theorem fields_3 (b : ByteArray) (w : World) (hk : (Cu.num 1 (b, 0) : Int) = 3) (hb : b.size ≤ 140737490000000) : Calls Tryz.prog 33 #[.string b] w fun e w' => FldP w.heap.size (fldCame b) e w' ∧ Below w.heap.size w w' := by
  obtain ⟨w1, hW1⟩ : ∃ w1, w.alloc (.cells Tryz.zeroCells38 38) = w1 := ⟨_, rfl⟩
  have r1 : Has w1 w.heap.size 38 Rc.zero.v 138 := by rw [← hW1, zeroRc]; exact Has.new w 38 Rc.zero.v 138 _ rfl
  have b1 : Below w.heap.size w w1 := by rw [← hW1]; exact (Below.refl w.heap.size w).alloc (Nat.le_refl _) _
  go_enter Tryz.func33, Tryz.ntmps33
  go_wp2_with fail
  refine (Cu.rOpen b _).mono ?_
  rintro e w2 ⟨rfl, hC2, hb2, hs2⟩
  obtain ⟨p, hp⟩ : ∃ p, w1.heap.size = p := ⟨_, rfl⟩
  rw [hp] at hC2 ⊢
  have hgp : w.heap.size < p := by rw [← hp]; exact r1.lt
  have q1 := r1.below hb2 r1.lt
  have g2 : Below w.heap.size w w2 := b1.trans (hb2.mono b1.size)
  clear hW1 r1 b1 hb2 hs2 hp
  go_wp2_with fail
  refine (Cu.rU8 p (b, 0) _ hC2).mono ?_
  rintro e w3 ⟨rfl, hC3, hM3⟩
  have q3 := q1.mr hM3 (by omega)
  have g3 : Below w.heap.size w w3 := g2.trans (hM3.below (by omega) g2.size)
  obtain ⟨kn, hkn⟩ : ∃ kn, Cu.num 1 (b, 0) = kn := ⟨_, rfl⟩
  have hkl : kn < 256 := by rw [← hkn]; exact num1_le _
  rw [show be (takeA 1 (b, 0)).data.toList = kn from hkn]
  obtain ⟨st, hst⟩ : ∃ st, takeS 1 (b, 0) = st := ⟨_, rfl⟩
  rw [hst] at hC3
  have KC := hide (conv8i kn hkl)
  obtain ⟨w4, w5, hW4, q4, hW5, q5, b5⟩ := newRc w3 ⟨(kn : Int), Upd.zero, nilS, 0, 0, 0, z32, z32, z32, 0⟩
  have Q4 := hide q4
  have F5 : Hid (FB w p w3.heap.size st ⟨(kn : Int), Upd.zero, nilS, 0, 0, 0, z32, z32, z32, 0⟩ w5) := ⟨hC3.same (b5.block p hC3.lt), q3.below b5 q3.lt, q5, g3.trans (b5.mono g3.size), hgp, hC3.lt⟩
  have HKK : Hid ((kn : Int) = 3) := by show _ = _; rw [← hkn]; exact hk
  clear hk hkn hst hC2 hC3 hM3 q1 q3 g2 g3 q4 q5 b5
  go_upto_region 3 with (first | rw [hW5] | refine Cu.wpList_conv rfl _ _ _ rfl .u8 .i64 (kn : Int) (kn : Int) (by rfl) (KC.out _) ?_ | refine wpW_build (by rfl) 38 #[(0, .tmp 10)] rfl [(0, .int .i64 (kn : Int))] (by first | rfl | (simp [Act.eval, Act.put]; done)) _ (builtRK (kn : Int)) ?_ | refine wpList_storeRc rfl _ _ rfl rfl (w3.heap.size) (⟨(kn : Int), Upd.zero, nilS, 0, 0, 0, z32, z32, z32, 0⟩) rfl rfl _ Q4.out ?_ | fail)
  try rw [hW5]
  generalize hg5 : w3.heap.size = g5 at F5 ⊢
  clear hW4 hW5 hg5 Q4 KC
  obtain ⟨K, hKn⟩ : ∃ K : Int, (kn : Int) = K := ⟨_, rfl⟩
  rw [hKn] at F5 HKK ⊢
  have hK0 : 0 ≤ K ∧ K < 256 := by omega
  clear hKn hkl
  have c0 : w5.cell? ⟨g5, 0, none⟩ = some (.int .i64 K) := F5.out.var.cell 0 (by omega)
  have hK1 : K = 3 := HKK.out
  subst hK1
  clear HKK hK0
  go_wp2_with fail
  refine (cameFields_any b _ hb).mono ?_
  rintro e w6 ⟨hP, hb6⟩
  obtain ⟨rr, bb, rfl, hPP⟩ := hP.rep
  have hR6 := F5.out.res.below hb6 F5.out.res.lt
  have hB6 : Below w.heap.size w w6 := F5.out.bel.trans (hb6.mono F5.out.bel.size)
  have hlt := F5.out.res.lt
  have K8 := hide hR6
  have HP := hide hPP
  clear hb6 hP hPP c0 F5
  go_wp2_with (first | refine wpList_storeRc rfl _ _ rfl rfl (w.heap.size) (rr) rfl rfl _ K8.out ?_ | fail)
  (try simp only [Exit.inBlock, Exit.then])
  exact bodyPost_ret (resRcB _ w.heap.size _ _ (.bool bb) 2 3 (K8.out.row _ rr.v rfl) rfl rfl _ rfl) rfl ⟨HP.out _ _ (by omega) (fun k hk => setRow_other _ _ _ _ (by omega)), below_setRow hB6 (Nat.le_refl _) _⟩
def fldR (b : ByteArray) : Option (Rc × List Upd) := if Cu.num 1 (b, 0) = 1 then fldOurs b else if Cu.num 1 (b, 0) = 3 then fldCame b else fldO b
theorem num1_pos {b : ByteArray} (h : Cu.num 1 (b, 0) = 1) : 1 ≤ b.size := by
  apply Nat.pos_of_ne_zero
  intro h0
  have : b.data.toList = [] := List.eq_nil_of_length_eq_zero (by rw [str_len]; exact h0)
  have hb : b = ⟨#[]⟩ := by
    cases b with
    | mk d => cases d with | mk l => simp at this; subst this; rfl
  subst hb
  revert h
  decide
theorem fields_any (b : ByteArray) (w : World) (hb : b.size ≤ 140737490000000) : Calls Tryz.prog 33 #[.string b] w fun e w' => FldP w.heap.size (fldR b) e w' ∧ Below w.heap.size w w' := by
  unfold fldR
  by_cases h1 : Cu.num 1 (b, 0) = 1
  · rw [if_pos h1]
    exact fields_1 b w (by omega) hb (num1_pos h1)
  · rw [if_neg h1]
    by_cases h3 : Cu.num 1 (b, 0) = 3
    · rw [if_pos h3]
      exact fields_3 b w (by omega) hb
    · rw [if_neg h3]
      exact fields_o b w ⟨by omega, by omega⟩
theorem rcread_any (b : ByteArray) (w : World) (hb : b.size ≤ 140737490000000) : Calls Tryz.prog 12 #[.string b] w fun e w' => RdP w.heap.size (rdOf (fldR b)) e w' ∧ Below w.heap.size w w' :=
  read_gen b (fldR b) w (fun wx => fields_any b wx hb)
end Go.Proofs.YtlohfoggcdaeiaaGreat
/-
  The mathematics of reading: a row of updates, there and back (by hand).
-/
namespace Go.Proofs.YtlohfoggcdaeiaaGreat
open Go.RowKit S
set_option linter.unusedVariables false
set_option linter.unusedSimpArgs false
open Cu (nb be hl ofL CW Mw CR Mr RS takeS takeA hOf nil8 doneS)
theorem bytesUs_cons (u : Upd) (l : List Upd) : bytesUs (u :: l) = bytesU u ++ bytesUs l := by
  unfold bytesUs; rw [List.flatMap_cons]
theorem bytesU_69 {u : Upd} (h : validB u = true) : (bytesU u).length ≤ 69 := by
  have := bytesUs_len (l := [u]) (by simp [h])
  rw [bytesUs_cons, List.length_append, List.length_singleton] at this
  omega
/-- Two rows of updates that say the same. -/
def eqUs : List Upd → List Upd → Prop
  | [], [] => True
  | v :: vs, u :: us => eqU v u = true ∧ eqUs vs us
  | _, _ => False
theorem rdUs_back : ∀ (us : List Upd) (hv : us.all validB = true) (t : List UInt8), ∃ vs, rdUs us.length (bytesUs us ++ t) = some (vs, (bytesUs us).length) ∧ eqUs vs us
  | [], _, t => ⟨[], rfl, trivial⟩
  | u :: us, hv, t => by
    rw [List.all_cons, Bool.and_eq_true] at hv
    have h9 := bytesU_69 hv.1
    obtain ⟨v, h1, h2⟩ := back_ok hv.1 ((bytesUs us ++ t).take (69 - (bytesU u).length))
    obtain ⟨vs, h3, h4⟩ := rdUs_back us hv.2 t
    refine ⟨v :: vs, ?_, h2, h4⟩
    rw [bytesUs_cons, List.append_assoc, List.length_cons]
    rw [rdUs_yes (u := v) (m := (bytesU u).length) (by rw [List.take_append, List.take_of_length_le h9]; exact h1)]
    rw [List.drop_left, h3, List.length_append]
    rfl
theorem rdUs_ok : ∀ (n : Nat) (L : List UInt8) (vs : List Upd) (a : Nat), rdUs n L = some (vs, a) → vs.length = n ∧ vs.all validB = true ∧ a ≤ L.length ∧ bytesUs vs = L.take a
  | 0, L, vs, a, h => by
    have h : some (([] : List Upd), 0) = some (vs, a) := h
    cases h
    exact ⟨rfl, rfl, Nat.zero_le _, rfl⟩
  | n + 1, L, vs, a, h => by
    obtain ⟨v, m, e, hr⟩ : ∃ v m e, rdL (L.take 69) = (v, m, e) := ⟨_, _, _, rfl⟩
    by_cases hE : e = 0
    · subst hE
      obtain ⟨k1, k2, k3, k4⟩ := rd_ok _ v m hr
      obtain ⟨k, rfl⟩ := Int.eq_ofNat_of_zero_le (Int.le_of_lt k2)
      rw [rdUs_yes (show rdL (L.take 69) = (v, (k : Int), 0) from hr)] at h
      cases h2 : rdUs n (L.drop k) with
      | none => rw [h2] at h; cases h
      | some p =>
        obtain ⟨ws, c⟩ := p
        rw [h2] at h
        obtain ⟨i1, i2, i3, i4⟩ := rdUs_ok n (L.drop k) ws c h2
        have h : some (v :: ws, k + c) = some (vs, a) := h
        cases h
        rw [List.length_take] at k3
        rw [List.length_drop] at i3
        refine ⟨by rw [List.length_cons, i1], by rw [List.all_cons, k1, i2]; rfl, by omega, ?_⟩
        have k4 : bytesU v = (L.take 69).take k := k4
        rw [bytesUs_cons, k4, i4, List.take_take, Nat.min_eq_left (by omega), List.take_add]
    · rw [rdUs_no (by rw [hr]; exact hE)] at h; cases h
theorem n1c (c : UInt8) (r : List UInt8) : Cu.num 1 (ofL (c :: r), 0) = c.toNat := by
  have := Cu.num_head [c] r 1 rfl
  rw [Cu.be_cons, Cu.be_nil] at this
  simpa using this
theorem t1c (c : UInt8) (r : List UInt8) : takeS 1 (ofL (c :: r), 0) = (ofL r, 0) := Cu.takeS_head [c] r 1 rfl
theorem t8n (x : Nat) (r : List UInt8) : takeS 8 (ofL (nb x 8 ++ r), 0) = (ofL r, 0) := Cu.takeS_head _ r 8 (by rw [Cu.nb_length]; rfl)
theorem t2n (x : Nat) (r : List UInt8) : takeS 2 (ofL (nb x 2 ++ r), 0) = (ofL r, 0) := Cu.takeS_head _ r 2 (by rw [Cu.nb_length]; rfl)
theorem t32 (h : Nat → UInt8) (r : List UInt8) : takeS 32 (ofL (hl h ++ r), 0) = (ofL r, 0) := Cu.takeS_head _ r 32 (by rw [Cu.hl_length]; rfl)
theorem a32 (h : Nat → UInt8) (r : List UInt8) : hOf (takeA 32 (ofL (hl h ++ r), 0)) = hashOf (hl h) := by
  rw [Cu.takeA_head _ r 32 (by rw [Cu.hl_length]; rfl), hOf_ofL]
theorem r8n {x : Int} (hx : idxB x = true) (r : List UInt8) : rd8 (ofL (nb x.toNat 8 ++ r), 0) = x := by
  have h := (idxB_iff x).1 hx
  have e := Cu.num_nb x.toNat 8 r
  rw [Nat.mod_eq_of_lt (by omega)] at e
  unfold rd8
  rw [show Cu.num 8 (ofL (nb x.toNat 8 ++ r), 0) = x.toNat from e, IntKind.wrap_i64]
  omega
theorem n2n {x : Int} (h0 : 0 ≤ x) (h1 : x ≤ 65535) (r : List UInt8) : (Cu.num 2 (ofL (nb x.toNat 2 ++ r), 0) : Int) = x := by
  rw [Cu.num2_nb x.toNat (by omega)]; omega
/-- What Read finds of a valid record's bytes, kinds 2, 4, 5 and 6. -/
def pure2 (r : Rc) : Rc :=
  if r.kind = 2 then ⟨2, Upd.zero, nilS, r.idx, r.co, r.cp, z32, z32, z32, 0⟩
  else if r.kind = 4 then ⟨4, Upd.zero, nilS, r.idx, 0, 0, z32, hashOf (hl r.sec), hashOf (hl r.pt), 0⟩
  else if r.kind = 5 then ⟨5, Upd.zero, nilS, 0, 0, 0, z32, z32, z32, r.code⟩
  else ⟨6, Upd.zero, nilS, r.idx, 0, 0, z32, z32, z32, 0⟩
theorem fldA_back {r : Rc} {l : List Upd} (hv : validR r l = true) (h1 : r.kind ≠ 1) (h3 : r.kind ≠ 3) (t : List UInt8) : fldA (ofL (bytesR r l ++ t)) = (pure2 r, (ofL t, 0)) := by
  have ho := (validR_own hv).2
  have hk : 1 ≤ r.kind ∧ r.kind ≤ 6 := by
    unfold validR isRec at hv
    simp only [Bool.and_eq_true, decide_eq_true_eq] at hv
    exact hv.1
  unfold fldA bytesR
  rw [List.cons_append, n1c, t1c]
  unfold ownV at ho
  unfold layR pure2
  rw [if_neg h1] at ho ⊢
  by_cases h2 : r.kind = 2
  · rw [if_pos h2, Bool.and_eq_true, Bool.and_eq_true, cntB_iff, cntB_iff] at ho
    rw [if_pos h2, if_pos h2, h2]
    show fldK 2 _ = _
    unfold fldK
    rw [if_pos rfl, List.append_assoc, List.append_assoc, r8n ho.1, t8n, n2n (by omega) (by omega), t2n, n2n (by omega) (by omega), t2n]
  rw [if_neg h2] at ho ⊢
  rw [if_neg h3] at ho ⊢
  rw [if_neg h2]
  by_cases h4 : r.kind = 4
  · rw [if_pos h4] at ho ⊢
    rw [if_pos h4, h4]
    show fldK 4 _ = _
    unfold fldK
    rw [if_neg (by decide), if_pos rfl, List.append_assoc, List.append_assoc, r8n ho, t8n, a32, t32, a32, t32]
  rw [if_neg h4] at ho ⊢
  rw [if_neg h4]
  by_cases h5 : r.kind = 5
  · rw [if_pos h5, codB_iff] at ho
    rw [if_pos h5, if_pos h5, h5]
    show fldK 5 _ = _
    unfold fldK
    rw [if_neg (by decide), if_neg (by decide), if_pos rfl, n2n (by omega) (by omega), t2n]
  rw [if_neg h5] at ho ⊢
  rw [if_neg h5, show r.kind = 6 by omega]
  show fldK 6 _ = _
  unfold fldK
  rw [if_neg (by decide), if_neg (by decide), if_neg (by decide), if_pos rfl, r8n ho, t8n]
theorem dataOfL (l : List UInt8) : (ofL l).data.toList = l := Cu.ofL_data l
theorem fldOurs_back {u : Upd} (hv : validB u = true) (c : UInt8) (t : List UInt8) : ∃ v, eqU v u = true ∧ fldOurs (ofL (c :: (bytesU u ++ t))) = some (⟨1, v, nilS, 0, 0, 0, z32, z32, z32, 0⟩, []) := by
  obtain ⟨vs, h1, h2⟩ := rdUs_back [u] (by simp [hv]) t
  have hb : bytesUs [u] = bytesU u := by rw [bytesUs_cons]; exact List.append_nil _
  rw [hb] at h1
  match vs, h1, h2 with
  | [], _, h2 => exact h2.elim
  | v :: vs, h1, h2 =>
    refine ⟨v, h2.1, ?_⟩
    unfold fldOurs
    rw [dataOfL, List.drop_succ_cons, List.drop_zero]
    have h1 : rdUs 1 (bytesU u ++ t) = some (v :: vs, (bytesU u).length) := h1
    rw [h1]
    rfl
theorem fldCame_back {x : Int} {l : List Upd} (hx : idxB x = true) (hl5 : l.length ≤ 512) (hv : l.all validB = true) (h : Nat → UInt8) (t : List UInt8) : ∃ vs, eqUs vs l ∧ fldCame (ofL (3 :: (nb x.toNat 8 ++ (nb l.length 2 ++ (bytesUs l ++ (hl h ++ t)))))) = some (⟨3, Upd.zero, nilS, x, 0, 0, hashOf (hl h), z32, z32, 0⟩, vs) := by
  obtain ⟨vs, h1, h2⟩ := rdUs_back l hv (hl h ++ t)
  refine ⟨vs, h2, ?_⟩
  have hS : cmS (ofL (3 :: (nb x.toNat 8 ++ (nb l.length 2 ++ (bytesUs l ++ (hl h ++ t)))))) = (ofL (bytesUs l ++ (hl h ++ t)), 0) := by
    unfold cmS; rw [t1c, t8n, t2n]
  have hN : cmN (ofL (3 :: (nb x.toNat 8 ++ (nb l.length 2 ++ (bytesUs l ++ (hl h ++ t)))))) = l.length := by
    unfold cmN; rw [t1c, t8n, Cu.num2_nb _ (by omega)]
  have hD : (3 :: (nb x.toNat 8 ++ (nb l.length 2 ++ (bytesUs l ++ (hl h ++ t)))) : List UInt8).drop 11 = bytesUs l ++ (hl h ++ t) := by
    rw [show (3 :: (nb x.toNat 8 ++ (nb l.length 2 ++ (bytesUs l ++ (hl h ++ t)))) : List UInt8) = (3 :: (nb x.toNat 8 ++ nb l.length 2)) ++ (bytesUs l ++ (hl h ++ t)) by simp [List.append_assoc]]
    exact List.drop_left' (by simp [Cu.nb_length])
  have hR : Cu.rawS ((bytesUs l).length : Int) (ofL (bytesUs l ++ (hl h ++ t)), 0) = (ofL (hl h ++ t), 0) := by
    unfold Cu.rawS Cu.rawMid
    rw [if_neg (by omega)]
    exact Cu.takeS_head _ _ _ rfl
  unfold fldCame
  rw [hS, hN, dataOfL, hD, h1, if_pos rfl, n1c, t1c, r8n hx]
  show (if (takeS 32 (Cu.rawS ((bytesUs l).length : Int) (ofL (bytesUs l ++ (hl h ++ t)), 0))).2 = 0 then _ else _) = _
  rw [hR, t32, if_pos rfl, a32]
  rfl
/-- What Read finds of a valid record's bytes: the record, up to what no field of its kind says. -/
def sameR (v r : Rc) (vs l : List Upd) : Prop :=
  v.kind = r.kind ∧ (r.kind = 1 → eqU v.upd r.upd = true) ∧ (r.kind ≠ 1 → v.upd = Upd.zero) ∧ eqUs vs (if r.kind = 3 then l else []) ∧
  v.idx = (if r.kind = 1 ∨ r.kind = 5 then 0 else r.idx) ∧ v.co = (if r.kind = 2 then r.co else 0) ∧ v.cp = (if r.kind = 2 then r.cp else 0) ∧
  v.sig = (if r.kind = 3 then hashOf (hl r.sig) else z32) ∧ v.sec = (if r.kind = 4 then hashOf (hl r.sec) else z32) ∧ v.pt = (if r.kind = 4 then hashOf (hl r.pt) else z32) ∧ v.code = (if r.kind = 5 then r.code else 0)
theorem fldR_back {r : Rc} {l : List Upd} (hv : validR r l = true) (hn : l.length = r.upds.n) (t : List UInt8) : ∃ v vs, sameR v r vs l ∧ fldR (ofL (bytesR r l ++ t)) = some (v, vs) := by
  have ho := (validR_own hv).2
  have hk : 1 ≤ r.kind ∧ r.kind ≤ 6 := by
    unfold validR isRec at hv
    simp only [Bool.and_eq_true, decide_eq_true_eq] at hv
    exact hv.1
  have hN : Cu.num 1 (ofL (bytesR r l ++ t), 0) = r.kind.toNat := by
    unfold bytesR
    rw [List.cons_append, n1c]
    obtain ⟨k, hk2⟩ := Int.eq_ofNat_of_zero_le (show 0 ≤ r.kind by omega)
    rw [hk2, Int.toNat_natCast, UInt8.toNat_ofNat']
    omega
  unfold fldR
  rw [hN]
  by_cases h1 : r.kind = 1
  · rw [if_pos (by omega)]
    unfold ownV at ho
    rw [if_pos h1] at ho
    unfold bytesR layR
    rw [if_pos h1, List.cons_append]
    obtain ⟨v, h2, h3⟩ := fldOurs_back ho (UInt8.ofNat r.kind.toNat) t
    refine ⟨_, _, ?_, h3⟩
    unfold sameR
    simp [h1, h2, eqUs]
  rw [if_neg (by omega)]
  by_cases h3 : r.kind = 3
  · rw [if_pos (by omega)]
    unfold ownV at ho
    rw [if_neg h1, if_neg (by omega), if_pos h3, Bool.and_eq_true, Bool.and_eq_true, decide_eq_true_eq] at ho
    unfold bytesR layR
    rw [if_neg h1, if_neg (by omega), if_pos h3, List.cons_append, h3]
    obtain ⟨vs, h4, h5⟩ := fldCame_back ho.1 (by omega) ho.2.2 r.sig t
    refine ⟨⟨3, Upd.zero, nilS, r.idx, 0, 0, hashOf (hl r.sig), z32, z32, 0⟩, vs, ?_, ?_⟩
    · unfold sameR
      simp [h3, h4]
    · rw [← hn]
      simp only [List.append_assoc]
      exact h5
  rw [if_neg (by omega)]
  unfold fldO
  rw [fldA_back hv h1 h3, if_pos rfl]
  refine ⟨_, _, ?_, rfl⟩
  unfold sameR pure2
  by_cases h2 : r.kind = 2
  · simp [h2, eqUs]
  by_cases h4 : r.kind = 4
  · simp [h4, eqUs]
  by_cases h5 : r.kind = 5
  · simp [h5, eqUs]
  have h6 : r.kind = 6 := by omega
  simp [h6, eqUs]
end Go.Proofs.YtlohfoggcdaeiaaGreat
/-
  Read of what Write wrote (by hand).
-/
namespace Go.Proofs.YtlohfoggcdaeiaaGreat
open Go.RowKit S
set_option linter.unusedVariables false
set_option linter.unusedSimpArgs false
open Cu (nb be hl ofL CW Mw CR Mr RS takeS takeA hOf nil8 doneS)
theorem noteEq {a b : ByteArray} (h : a.toList = b.toList) : a = b := by
  rw [ByteArray.toList_eq, ByteArray.toList_eq] at h
  exact ByteArray.ext (Array.ext' h)
theorem bytesU_congr {u v : Upd} (h : eqU u v = true) : bytesU u = bytesU v := by
  unfold eqU at h
  simp only [Bool.and_eq_true, beq_iff_eq] at h
  obtain ⟨h1, h2, h3, h4, h5⟩ := h
  have h5' : u.note = v.note := noteEq h5
  have h6 : hl u.hash = hl v.hash := by
    unfold hl
    exact List.map_congr_left fun i hi => (eqH_iff _ _).1 h4 i (List.mem_range.1 hi)
  unfold bytesU
  rw [h1, h2, h3, h5', h6]
theorem eqUs_len : ∀ {vs us : List Upd}, eqUs vs us → vs.length = us.length
  | [], [], _ => rfl
  | v :: vs, u :: us, h => by rw [List.length_cons, List.length_cons, eqUs_len h.2]
  | [], _ :: _, h => h.elim
  | _ :: _, [], h => h.elim
theorem eqUs_bytes : ∀ {vs us : List Upd}, eqUs vs us → bytesUs vs = bytesUs us
  | [], [], _ => rfl
  | v :: vs, u :: us, h => by rw [bytesUs_cons, bytesUs_cons, bytesU_congr h.1, eqUs_bytes h.2]
  | [], _ :: _, h => h.elim
  | _ :: _, [], h => h.elim
theorem eqUs_all : ∀ {vs us : List Upd}, eqUs vs us → vs.all validB = us.all validB
  | [], [], _ => rfl
  | v :: vs, u :: us, h => by rw [List.all_cons, List.all_cons, valid_congr h.1, eqUs_all h.2]
  | [], _ :: _, h => h.elim
  | _ :: _, [], h => h.elim
theorem sameR_bytes {v r : Rc} {vs l : List Upd} (h : sameR v r vs l) (hk : 1 ≤ r.kind ∧ r.kind ≤ 6) (hn : l.length = r.upds.n) : bytesR (setU v (lenS vs)) vs = bytesR r l := by
  obtain ⟨e0, e1, e2, e3, e4, e5, e6, e7, e8, e9, e10⟩ := h
  have hH : ∀ f : Nat → UInt8, hl (hashOf (hl f)) = hl f := fun f => hl_hashOf _ (Cu.hl_length f)
  unfold bytesR layR
  show UInt8.ofNat v.kind.toNat :: (if v.kind = 1 then bytesU v.upd else if v.kind = 2 then nb v.idx.toNat 8 ++ (nb v.co.toNat 2 ++ nb v.cp.toNat 2) else if v.kind = 3 then nb v.idx.toNat 8 ++ (nb vs.length 2 ++ (bytesUs vs ++ hl v.sig)) else if v.kind = 4 then nb v.idx.toNat 8 ++ (hl v.sec ++ hl v.pt) else if v.kind = 5 then nb v.code.toNat 2 else nb v.idx.toNat 8) = _
  rw [e0]
  by_cases h1 : r.kind = 1
  · rw [if_pos h1, if_pos h1, bytesU_congr (e1 h1)]
  rw [if_neg h1, if_neg h1]
  by_cases h5 : r.kind = 5
  · simp [h5] at e10 ⊢
    rw [e10]
  rw [if_neg (show ¬(r.kind = 1 ∨ r.kind = 5) by omega)] at e4
  rw [e4]
  by_cases h2 : r.kind = 2
  · rw [if_pos h2] at e5 e6 ⊢
    rw [if_pos h2, e5, e6]
  rw [if_neg h2, if_neg h2]
  by_cases h3 : r.kind = 3
  · rw [if_pos h3] at e3 e7 ⊢
    rw [if_pos h3, e7, hH, eqUs_len e3, eqUs_bytes e3, hn]
  rw [if_neg h3, if_neg h3]
  by_cases h4 : r.kind = 4
  · rw [if_pos h4] at e8 e9 ⊢
    rw [if_pos h4, e8, e9, hH, hH]
  rw [if_neg h4, if_neg h4, if_neg h5, if_neg h5]
theorem sameR_valid {v r : Rc} {vs l : List Upd} (h : sameR v r vs l) (hv : validR r l = true) (hn : l.length = r.upds.n) : validR (setU v (lenS vs)) vs = true := by
  obtain ⟨e0, e1, e2, e3, e4, e5, e6, e7, e8, e9, e10⟩ := h
  have ho := (validR_own hv).2
  have hk : isRec r.kind = true := by
    unfold validR at hv
    rw [Bool.and_eq_true] at hv
    exact hv.1
  have hk6 : 1 ≤ r.kind ∧ r.kind ≤ 6 := by unfold isRec at hk; simpa using hk
  have hv0 : vs.length = (if r.kind = 3 then l else []).length := eqUs_len e3
  unfold ownV at ho
  unfold validR
  rw [show (setU v (lenS vs)).kind = r.kind from e0, hk, Bool.true_and, Bool.and_eq_true]
  unfold bareB strip ownV setU lenS
  simp only [e0]
  by_cases h1 : r.kind = 1
  · simp [h1] at *
    simp [*, valid_congr e1, eqU_refl, eqH_refl]
  by_cases h2 : r.kind = 2
  · simp [h2] at *
    simp [*, eqU_refl, eqH_refl]
  by_cases h3 : r.kind = 3
  · simp [h3] at *
    have hall : ∀ x, x ∈ vs → validB x = true := List.all_eq_true.1 ((eqUs_all e3).trans (List.all_eq_true.2 ho.2.2))
    simp [*, eqU_refl, eqH_refl, nilS]
    exact hall
  by_cases h4 : r.kind = 4
  · simp [h4] at *
    simp [*, eqU_refl, eqH_refl]
  by_cases h5 : r.kind = 5
  · simp [h5] at *
    simp [*, eqU_refl, eqH_refl]
  have h6 : r.kind = 6 := by omega
  simp [h6] at *
  simp [*, eqU_refl, eqH_refl]
theorem rd_back {r : Rc} {l : List Upd} (hv : validR r l = true) (hn : l.length = r.upds.n) (t : List UInt8) : ∃ v vs, sameR v r vs l ∧ rdOf (fldR (ofL (bytesR r l ++ t))) = some (v, vs, (bytesR r l).length) := by
  obtain ⟨v, vs, h1, h2⟩ := fldR_back hv hn t
  refine ⟨v, vs, h1, ?_⟩
  have hk : 1 ≤ r.kind ∧ r.kind ≤ 6 := by
    unfold validR isRec at hv
    simp only [Bool.and_eq_true, decide_eq_true_eq] at hv
    exact hv.1
  unfold rdOf
  rw [h2]
  show (if validR (setU v (lenS vs)) vs = true then _ else _) = _
  rw [if_pos (sameR_valid h1 hv hn), sameR_bytes h1 hk hn]
end Go.Proofs.YtlohfoggcdaeiaaGreat
