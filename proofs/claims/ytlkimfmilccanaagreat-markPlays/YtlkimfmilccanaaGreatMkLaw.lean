import Derived.Test.YtlkimfmilccanaaGreatMkRaise
import Derived.Test.YtlkimfmilccanaaGreatKRef2
import Derived.Test.YtlkimfmilccanaaGreatRowsOwn
/-
  The statements' own head: example 1; least, name.
-/
namespace Go.Proofs.YtlkimfmilccanaaGreat
open Go.RowKit Go.Maps Go.WideMaps
set_option linter.unusedVariables false
set_option linter.unusedSimpArgs false
theorem mkp_isSome {B : Nat} {w w' : World} {L : List Item} {i : Nat} {D : AD → Item} {T : TypeId} {p : Nat} {k : ByteArray} {R : MAns} {e : Ending} {v : Int} {x : Nat} (h : MkPost B w L i D T p k R e w') (h1 : R.2.1 = some (v, x)) :
    ∃ g, e = .returned (.tuple #[.pointer (some ⟨g, 0, none⟩), .int .i64 R.1]) ∧ Lies B w' (L.set i (D R.2.2) ++ [.mkI T g p k v x]) ∧ Below B w w' := by
  obtain ⟨hb, h2⟩ := h
  rw [h1] at h2
  obtain ⟨g, he, hl⟩ := h2
  exact ⟨g, he, hl, hb⟩
theorem mkp_isNone {B : Nat} {w w' : World} {L : List Item} {i : Nat} {D : AD → Item} {T : TypeId} {p : Nat} {k : ByteArray} {R : MAns} {e : Ending} (h : MkPost B w L i D T p k R e w') (h1 : R.2.1 = none) :
    e = .returned (.tuple #[.pointer none, .int .i64 R.1]) ∧ Lies B w' (L.set i (D R.2.2)) ∧ Below B w w' := by
  obtain ⟨hb, h2⟩ := h
  rw [h1] at h2
  exact ⟨h2.1, h2.2, hb⟩
def mL : Key := [109]
def HF0 : AD := AD.fresh 1000
def HF1 : AD := (HF0.openM mL).2.2
def HF2 : AD := (HF1.raiseM mL (-1) 1 5).2.2
set_option maxRecDepth 100000 in
theorem hv1 : (HF0.openM mL).1 = 0 := by decide +kernel
set_option maxRecDepth 100000 in
theorem hv2 : (HF0.openM mL).2.1 = some (-1, 1) := by decide +kernel
set_option maxRecDepth 100000 in
theorem hv3 : (HF1.raiseM mL (-1) 1 5).1 = 0 := by decide +kernel
set_option maxRecDepth 100000 in
theorem hv4 : (HF1.raiseM mL (-1) 1 5).2.1 = (5, 0) := by decide +kernel
set_option maxRecDepth 100000 in
theorem hv5 : HF2.read mL 64 8 = ([0, 0, 0, 0, 0, 0, 0, 5], 0) := by decide +kernel
set_option maxRecDepth 100000 in
theorem hv6 : HF2.size mL = (128, 0) := by decide +kernel
set_option maxRecDepth 100000 in
theorem hv7 : HF2.list = [mL] := by decide +kernel
theorem hv8 : HF2.raiseM (ByteArray.mk #[109]).data.toList 5 0 3 = (0, (5, 0), HF2) := by
  unfold AD.raiseM
  rw [if_neg (by decide), if_pos (by decide)]
theorem hv9 : HF2.raiseM (ByteArray.mk #[109]).data.toList 5 0 (-2) = (1, (5, 0), HF2) := by
  unfold AD.raiseM
  rw [if_pos (by decide)]
section
variable {B : Nat} {w : World} {p g : Nat}
abbrev mB : ByteArray := ⟨#[109]⟩
theorem hc1 (h : Lies B w [.disk p HF0]) : Calls Tryz.prog 9 #[.pointer (some ⟨p, 0, none⟩), .string ⟨#[109]⟩] w fun e w' => ∃ g, e = .returned (.tuple #[.pointer (some ⟨g, 0, none⟩), .int .i64 0]) ∧ Lies B w' [.disk p HF1, .mkI 91 g p mB (-1) 1] ∧ Below B w w' :=
  (mopen_any (i := 0) h rfl ⟨#[109]⟩ (by decide)).mono (fun e w' hp => by
    obtain ⟨g, he, hl, hb⟩ := mkp_isSome hp hv2
    refine ⟨g, he.trans ?_, hl, hb⟩
    rw [show (HF0.openM (ByteArray.mk #[109]).data.toList).1 = 0 from hv1])
theorem raise2 {A A' : AD} {k : ByteArray} {v v' n E : Int} {x x' : Nat} (h : Lies B w [.disk p A, .mkI 91 g p k v x]) (hk : k.size ≤ 1000) (hx : x ≤ 1) (hR : A.raiseM k.data.toList v x n = (E, (v', x'), A')) : Calls Tryz.prog 11 #[.pointer (some ⟨g, 0, none⟩), .int .i64 n] w fun e w' => e = .returned (.int .i64 E) ∧ Lies B w' [.disk p A', .mkI 91 g p k v' x'] ∧ Below B w w' :=
  mraise_any (i := 0) (j := 1) h rfl rfl (by decide) hk hx n (E, (v', x'), A') hR
theorem pair3 {α β γ : Type} (r : α × β × γ) : r = (r.1, r.2.1, r.2.2) := rfl
theorem hv10 : HF1.raiseM (ByteArray.mk #[109]).data.toList (-1) 1 5 = (0, (5, 0), HF2) := by
  have e := pair3 (HF1.raiseM mL (-1) 1 5)
  have e2 : (HF1.raiseM mL (-1) 1 5).2.2 = HF2 := by unfold HF2; rfl
  rw [hv3, hv4, e2] at e
  exact e
theorem hc2 (h : Lies B w [.disk p HF1, .mkI 91 g p mB (-1) 1]) : Calls Tryz.prog 11 #[.pointer (some ⟨g, 0, none⟩), .int .i64 5] w fun e w' => e = .returned (.int .i64 0) ∧ Lies B w' [.disk p HF2, .mkI 91 g p mB 5 0] ∧ Below B w w' :=
  raise2 h (by decide) (by decide) hv10
theorem hc3 (h : Lies B w [.disk p HF2, .mkI 91 g p mB 5 0]) : Calls Tryz.prog 11 #[.pointer (some ⟨g, 0, none⟩), .int .i64 3] w fun e w' => e = .returned (.int .i64 0) ∧ Lies B w' [.disk p HF2, .mkI 91 g p mB 5 0] ∧ Below B w w' :=
  raise2 h (by decide) (by decide) hv8
theorem hc4 (h : Lies B w [.disk p HF2, .mkI 91 g p mB 5 0]) : Calls Tryz.prog 11 #[.pointer (some ⟨g, 0, none⟩), .int .i64 (-2)] w fun e w' => e = .returned (.int .i64 1) ∧ Lies B w' [.disk p HF2, .mkI 91 g p mB 5 0] ∧ Below B w w' :=
  raise2 h (by decide) (by decide) hv9
theorem hc5 {L : List Item} (h : Lies B w (.disk p HF2 :: L)) : Calls Tryz.prog 12 #[.pointer (some ⟨p, 0, none⟩), .string ⟨#[109]⟩, .int .i64 64, .int .i64 8] w fun e w' => e = .returned (.tuple #[.string ⟨#[0, 0, 0, 0, 0, 0, 0, 5]⟩, .int .i64 0]) ∧ Lies B w' (.disk p HF2 :: L) ∧ Below B w w' := by
  have := s_read (i := 0) h rfl ⟨#[109]⟩ (by decide) 64 8
  rw [show HF2.read (ByteArray.mk #[109]).data.toList 64 8 = ([0, 0, 0, 0, 0, 0, 0, 5], 0) from hv5] at this
  exact this
theorem hc6 {L : List Item} (h : Lies B w (.disk p HF2 :: L)) : Calls Tryz.prog 32 #[.pointer (some ⟨p, 0, none⟩), .string ⟨#[109]⟩] w fun e w' => e = .returned (.tuple #[.int .i64 128, .int .i64 0]) ∧ w' = w := by
  have := s_size (i := 0) h rfl ⟨#[109]⟩ (by decide)
  rw [show HF2.size (ByteArray.mk #[109]).data.toList = (128, 0) from hv6] at this
  exact this
theorem hc7 {L : List Item} (h : Lies B w (.disk p HF2 :: L)) : Calls Tryz.prog 33 #[.pointer (some ⟨p, 0, none⟩)] w fun e w' => ∃ ad cap, e = .returned (.slice ad 1 cap) ∧ Below B w w' :=
  (s_list (i := 0) h rfl).mono (fun e w' ⟨v, he, hr, _, hb⟩ => by
    rw [hv7] at hr
    have hr' : w'.ownsRow 0 9 1 v 1 ([mL].map encStr) := hr
    obtain ⟨ad, cap, rfl, _⟩ := row_at hr'
    exact ⟨ad, cap, he, hb⟩)
end
set_option maxRecDepth 5000 in
set_option maxHeartbeats 2000000 in
theorem head_any (w : World) : Calls Tryz.prog 7 #[] w fun e w' => e = .returned (.bool true) ∧ Below w.heap.size w w' := by
  obtain ⟨B, hB⟩ : ∃ B, w.heap.size = B := ⟨_, rfl⟩
  have hl0 : Lies B w [] := Lies.nil (by rw [hB]; exact Nat.le_refl _)
  have hnew := k_new hl0 1000 (by decide) (by decide)
  rw [hB]
  clear hl0 hB
  go_enter Tryz.func7, Tryz.ntmps7
  go_wp2_with fail
  refine hnew.mono ?_
  rintro e w1 ⟨p, rfl, h, hb⟩
  have HB1 := hide hb
  have hc := hc1 h
  clear h hb hnew
  go_wp2_with fail
  refine hc.mono ?_
  rintro e w2 ⟨g, rfl, h, hb⟩
  have HB2 := hide (HB1.out.trans hb)
  have HH := hide h
  have hcv := mvalue_any (j := 1) h rfl
  clear h hb hc HB1
  go_wp2_with fail
  refine hcv.mono ?_
  rintro e w3 ⟨rfl, hw⟩
  obtain rfl := hw.symm
  clear hw hcv
  have hc := hc2 HH.out
  clear HH
  go_wp2_with fail
  refine hc.mono ?_
  rintro e w4 ⟨rfl, h, hb⟩
  have HB4 := hide (HB2.out.trans hb)
  have HH := hide h
  have hcv := mvalue_any (j := 1) h rfl
  clear h hb hc HB2
  go_wp2_with fail
  refine hcv.mono ?_
  rintro e w5 ⟨rfl, hw⟩
  obtain rfl := hw.symm
  clear hw hcv
  have hc := hc3 HH.out
  clear HH
  go_wp2_with fail
  refine hc.mono ?_
  rintro e w6 ⟨rfl, h, hb⟩
  have HB6 := hide (HB4.out.trans hb)
  have HH := hide h
  have hcv := mvalue_any (j := 1) h rfl
  clear h hb hc HB4
  go_wp2_with fail
  refine hcv.mono ?_
  rintro e w7 ⟨rfl, hw⟩
  obtain rfl := hw.symm
  clear hw hcv
  have hc := hc4 HH.out
  clear HH
  go_wp2_with fail
  refine hc.mono ?_
  rintro e w8 ⟨rfl, h, hb⟩
  have HB8 := hide (HB6.out.trans hb)
  have hc := hc5 h
  clear h hb HB6
  go_wp2_with fail
  refine hc.mono ?_
  rintro e w9 ⟨rfl, h, hb⟩
  have HB9 := hide (HB8.out.trans hb)
  have hc := hc6 h
  have HH := hide h
  clear h hb HB8
  go_wp2_with fail
  refine hc.mono ?_
  rintro e w10 ⟨rfl, hw⟩
  obtain rfl := hw.symm
  clear hw
  have hc := hc7 HH.out
  clear HH
  go_wp2_with fail
  refine hc.mono ?_
  rintro e w11 ⟨ad, cap, rfl, hb⟩
  have HB11 := hide (HB9.out.trans hb)
  clear hb HB9 hc
  go_wp2
  go_ret
  exact ⟨rfl, HB11.out⟩
/-! ### least, name -/
def leastI (n m : Int) : Int := if Int.tmod n m < 0 then Int.tmod n m + m else Int.tmod n m
theorem least_rng {n m : Int} (hm : 0 < m) : 0 ≤ leastI n m ∧ leastI n m < m := by
  unfold leastI
  have h1 := Int.tmod_lt_of_pos n hm
  have h2 : -m < Int.tmod n m := by
    have := Int.tmod_lt_of_pos (-n) hm
    rw [Int.neg_tmod] at this
    omega
  split <;> omega
theorem least_any (n m : Int) (hm : 0 < m ∧ m < 1000000) (w : World) : Calls Tryz.prog 15 #[.int .i64 n, .int .i64 m] w fun e w' => e = .returned (.int .i64 (leastI n m)) ∧ w' = w := by
  have hr := least_rng (n := n) hm.1
  unfold leastI at hr ⊢
  obtain ⟨k, hk⟩ : ∃ k, Int.tmod n m = k := ⟨_, rfl⟩
  have h1 := Int.tmod_lt_of_pos n hm.1
  have h2 : -m < Int.tmod n m := by
    have := Int.tmod_lt_of_pos (-n) hm.1
    rw [Int.neg_tmod] at this
    omega
  have hm0 : m ≠ 0 := by omega
  have hm1 : (m == 0) = false := beq_eq_false_iff_ne.2 hm0
  have hw1 : IntKind.i64.wrap k = k := wrap_id (by omega) (by omega)
  have hw2 : wrap64 k = k := by unfold wrap64; omega
  by_cases hn : k < 0
  · have d : decide (k < 0) = true := decide_eq_true hn
    have hw3 : wrap64 (k + m) = k + m := by unfold wrap64; omega
    rw [hk, if_pos hn]
    have HW := hide hw3
    clear hr h1 h2 hm hw3
    go_enter Tryz.func15, Tryz.ntmps15
    go_wp2
    go_ret
    exact ⟨by rw [HW.out]; rfl, rfl⟩
  · have d : decide (k < 0) = false := decide_eq_false hn
    rw [hk, if_neg hn]
    clear hr h1 h2 hm
    go_enter Tryz.func15, Tryz.ntmps15
    go_wp2
    go_ret
    exact ⟨rfl, rfl⟩
def nameT (two : Bool) : ByteArray := if two then ⟨#[116, 119, 111]⟩ else ⟨#[111, 110, 101]⟩
theorem name_any (two : Bool) (w : World) : Calls Tryz.prog 21 #[.bool two] w fun e w' => e = .returned (.string (nameT two)) ∧ w' = w := by
  cases two
  all_goals
  · unfold nameT
    go_enter Tryz.func21, Tryz.ntmps21
    go_wp2
    go_ret
    exact ⟨rfl, rfl⟩
end Go.Proofs.YtlkimfmilccanaaGreat
/-
  The statements' own slot and whole.
-/
namespace Go.Proofs.YtlkimfmilccanaaGreat
open Go.RowKit Go.Maps Go.WideMaps
set_option linter.unusedVariables false
set_option linter.unusedSimpArgs false
theorem sdigit (X : Int) (j m : Nat) (hj : j < 8) (hm : 8 * (8 - 1 - j) = m) : IntKind.u8.wrap (X / (2 : Int) ^ m) = ((Fr.digit (bits64 X) 8 j).toNat : Int) := by
  unfold Fr.digit bits64
  rw [hm, Fr.toNat_ofNat8]
  have e : IntKind.u8.wrap (X / (2 : Int) ^ m) = (X / (2 : Int) ^ m) % 256 := by simp [IntKind.wrap, IntKind.bits, IntKind.signed]
  rw [e]
  have hc : m = 0 ∨ m = 8 ∨ m = 16 ∨ m = 24 ∨ m = 32 ∨ m = 40 ∨ m = 48 ∨ m = 56 := by omega
  rcases hc with h | h | h | h | h | h | h | h <;> subst h <;> (try simp only [Int.pow_zero, Nat.pow_zero, Int.ediv_one, Nat.div_one]) <;> omega
def slLen : Value → Nat
  | .slice _ n _ => n
  | _ => 0
theorem grown_of {w w' : World} {row : Option Nat} (h : Below w.heap.size w w') : w.grownBy w' row := ⟨h.os, h.tape, h.output, h.size, fun b hb _ => h.block b hb⟩
theorem src4 (w : World) (a b c d : UInt8) (g : Nat) (h : w.heap[g]? = some (.cells #[.int .u8 (a.toNat : Int), .int .u8 (b.toNat : Int), .int .u8 (c.toNat : Int), .int .u8 (d.toNat : Int)] 5 (0, 0))) : Src Tryz.prog 1 42 (.slice (some ⟨g, 0, none⟩) 4 4) [a, b, c, d].length ([a, b, c, d].map byteV) w :=
  Src.ofSlice w Tryz.underlying42 ⟨g, 0, none⟩ 4 4 _ (by simp) (World.news_of_block h) (by intro u hu; simp at hu; rcases hu with rfl | rfl | rfl | rfl <;> rfl)
set_option maxRecDepth 5000 in
set_option maxHeartbeats 4000000 in
theorem lslot_any (X : Int) (hX : -9223372036854775808 ≤ X ∧ X < 9223372036854775808) (w : World) : Calls Tryz.prog 10 #[.int .i64 X] w fun e w' => e = .returned (.string ⟨(slotL X).toArray⟩) ∧ Below w.heap.size w w' := by
  obtain ⟨B, hB⟩ : ∃ B, w.heap.size = B := ⟨_, rfl⟩
  obtain ⟨x, hx⟩ : ∃ x, bits64 X = x := ⟨_, rfl⟩
  have HSD : Hid (∀ j m : Nat, j < 8 → 8 * (8 - 1 - j) = m → IntKind.u8.wrap (X / (2 : Int) ^ m) = ((Fr.digit x 8 j).toNat : Int)) := fun j m h1 h2 => by rw [← hx]; exact sdigit X j m h1 h2
  have HSL : Hid (slotL X = Fr.nb x 8 ++ Fr.nb (crcN (Fr.nb x 8)) 4 ++ List.replicate 52 0) := by show _ = _; unfold slotL slotH; rw [hx]
  obtain ⟨R, hR⟩ : ∃ R : ByteArray, (⟨(slotL X).toArray⟩ : ByteArray) = R := ⟨_, rfl⟩
  have HR : Hid (R = ⟨(Fr.nb x 8 ++ Fr.nb (crcN (Fr.nb x 8)) 4 ++ List.replicate 52 0).toArray⟩) := by show _ = _; rw [← hR, HSL.out]
  rw [hR]
  have HB := hide hB
  rw [hB]
  clear hx hX HSL hR hB
  go_enter Tryz.func10, Tryz.ntmps10
  go_wp2
  go_loopw [3, 4] (fun b i wr => ∃ k : Nat, k ≤ 8 ∧ i = .int .i64 ((k : Int) - 1) ∧ Fr.Bytes wr B b ((List.range (8 - k)).map (Fr.digit x 8)) ∧ Fr.Mv w (.slice none 0 0) wr b) (fun _ i _ => (intOf i + 1).toNat)
  case atStart => exact ⟨8, by omega, rfl, Fr.Bytes.nil _ _, Fr.Mv.refl _ _⟩
  case round =>
    obtain ⟨k, hk, rfl, hb, hM⟩ := hrel
    have hs' : B ≤ wr.heap.size := by rw [← HB.out]; exact hM.gr.size
    by_cases hlt : 0 < k
    · have h1 : (0 : Int) ≤ (k : Int) - 1 := by omega
      have hd : decide ((k : Int) - 1 ≥ 0) = true := by simp; omega
      obtain ⟨Z, hZ⟩ : ∃ Z : Int, X / (2 : Int) ^ (8 * (k - 1)) = Z := ⟨_, rfl⟩
      have hc : ∀ w : World, (convert 2 5 (.int .i64 Z)).run Tryz.prog w = .ok (.int .u8 ((Fr.digit x 8 (8 - k)).toNat : Int)) w := fun w => by
        rw [← HSD.out (8 - k) (8 * (k - 1)) (by omega) (by omega), hZ]
        exact Fr.conv_u8 2 .i64 Z (by kernel_rfl) w
      have HZ := hide hZ
      have HC := hide hc
      clear hZ hc
      obtain ⟨L, hL⟩ : ∃ L, (List.range (8 - k)).map (Fr.digit x 8) = L := ⟨_, rfl⟩
      have HLL : Hid (L.length + 1 ≤ 140737488355328) := by
        show _ ≤ _
        rw [← hL, List.length_map, List.length_range]; omega
      rw [hL] at hb
      have HE := hide hL
      clear hL
      go_wp2_with (first | (refine Fr.wpList_shr rfl _ _ _ _ rfl .i64 .u64 X _ Z (by rfl) (by rfl) (8 * (k - 1)) (by omega) (by show _ ≤ 64; omega) HZ.out ?_) | (refine Fr.wpList_conv rfl _ _ _ rfl .i64 .u8 Z _ (by rfl) (HC.out _) ?_) | (at_builtin; refine Fr.wpList_append_byte rfl _ _ rfl B _ L (Fr.digit x 8 (8 - k)) _ rfl (by rfl) hb (by rfl) rfl HLL.out hs' ?_; intro g cap w5 hB5 hM5))
      go_roundw
      case rel =>
        refine ⟨k - 1, by omega, by congr 1; omega, ?_, hM.trans hM5⟩
        rw [← HE.out, Fr.range_snoc, show 8 - k + 1 = 8 - (k - 1) by omega] at hB5
        rw [HE.out] at hB5
        exact hB5
      case measure => simp [intOf]; omega
    · have hk0 : k = 0 := by omega
      subst hk0
      have hb8 : Fr.Bytes wr B u3 (Fr.nb x 8) := hb
      clear hb
      obtain ⟨ad, n, c, rfl⟩ := hb8.shape
      obtain ⟨T, hT⟩ : ∃ T : ByteArray, (⟨(Fr.nb x 8).toArray⟩ : ByteArray) = T := ⟨_, rfl⟩
      have hcv := hb8.conv
      rw [hT] at hcv
      obtain ⟨Y, hY⟩ : ∃ Y : Int, Y = ((Fr.C.on 0#32 T.data.toList).toNat : Int) := ⟨_, rfl⟩
      have lT : T.data.toList = Fr.nb x 8 := by rw [← hT]
      have HY : Hid (Y = (crcN (Fr.nb x 8) : Int)) := by show _ = _; rw [hY, lT]; rfl
      have zT : T.size = 8 := by rw [← str_len, lT, Fr.nb_length]
      have HSUM := hide (fun w => Fr.crcSum_any T w (by unfold maxLen; omega) Y hY)
      have HB8 := hide hb8
      have HM8 := hide hM
      clear hT hY lT zT hb8 hM HSD
      go_wp2_with fail
      refine (HSUM.out _).mono ?_
      rintro e w1 ⟨rfl, hb1⟩
      obtain ⟨cs, hcs⟩ : ∃ c, crcN (Fr.nb x 8) = c := ⟨_, rfl⟩
      rw [hcs] at HY HR
      obtain ⟨Z0, h0⟩ : ∃ Z : Int, Y / (2 : Int) ^ 24 = Z := ⟨_, rfl⟩
      obtain ⟨Z1, h1⟩ : ∃ Z : Int, Y / (2 : Int) ^ 16 = Z := ⟨_, rfl⟩
      obtain ⟨Z2, h2⟩ : ∃ Z : Int, Y / (2 : Int) ^ 8 = Z := ⟨_, rfl⟩
      obtain ⟨D0, d0⟩ : ∃ d, Fr.digit cs 4 0 = d := ⟨_, rfl⟩
      obtain ⟨D1, d1⟩ : ∃ d, Fr.digit cs 4 1 = d := ⟨_, rfl⟩
      obtain ⟨D2, d2⟩ : ∃ d, Fr.digit cs 4 2 = d := ⟨_, rfl⟩
      obtain ⟨D3, d3⟩ : ∃ d, Fr.digit cs 4 3 = d := ⟨_, rfl⟩
      have c0 : ∀ w : World, (convert 88 5 (.int .u32 Z0)).run Tryz.prog w = .ok (.int .u8 (D0.toNat : Int)) w := fun w => by rw [kconv_u8, ← h0, HY.out, k8_digit cs 0 24 rfl, d0]
      have c1 : ∀ w : World, (convert 88 5 (.int .u32 Z1)).run Tryz.prog w = .ok (.int .u8 (D1.toNat : Int)) w := fun w => by rw [kconv_u8, ← h1, HY.out, k8_digit cs 1 16 rfl, d1]
      have c2 : ∀ w : World, (convert 88 5 (.int .u32 Z2)).run Tryz.prog w = .ok (.int .u8 (D2.toNat : Int)) w := fun w => by rw [kconv_u8, ← h2, HY.out, k8_digit cs 2 8 rfl, d2]
      have c3 : ∀ w : World, (convert 88 5 (.int .u32 Y)).run Tryz.prog w = .ok (.int .u8 (D3.toNat : Int)) w := fun w => by
        have := k8_digit cs 3 0 rfl
        rw [Int.pow_zero, Int.ediv_one] at this
        rw [kconv_u8, HY.out, this, d3]
      obtain ⟨g1, hg1⟩ : ∃ g, w1.heap.size = g := ⟨_, rfl⟩
      obtain ⟨w2, hw2⟩ : ∃ v, w1.alloc (.cells #[.int .u8 (D0.toNat : Int), .int .u8 (D1.toNat : Int), .int .u8 (D2.toNat : Int), .int .u8 (D3.toNat : Int)] 5) = v := ⟨_, rfl⟩
      obtain ⟨hk2, hb2⟩ := laid hg1 hw2
      have hsrc := src4 w2 D0 D1 D2 D3 g1 hk2
      have hbb : Below w1.heap.size w1 w2 := by rw [hg1]; exact hb2
      have hb12 : Below wr.heap.size wr w2 := hb1.trans (hbb.mono hb1.size)
      have HBY2 : Hid (Fr.Bytes w2 B (.slice ad n c) (Fr.nb x 8)) := HB8.out.same (fun k hk => hb12.block k (HB8.out.lt k hk))
      have HMV2 : Hid (Fr.Mv w (.slice none 0 0) w2 (.slice ad n c)) := HM8.out.trans ⟨grown_of hb12, fun g hg => .inl hg⟩
      have HBS2 : Hid (B ≤ w2.heap.size) := Nat.le_trans hs' hb12.size
      have HNB : Hid (Fr.nb cs 4 = [D0, D1, D2, D3]) := by show _ = _; rw [nb4, d0, d1, d2, d3]
      have H0 := hide h0
      have H1 := hide h1
      have H2 := hide h2
      have C0 := hide c0
      have C1 := hide c1
      have C2 := hide c2
      have C3 := hide c3
      have HSRC := hide hsrc
      clear h0 h1 h2 c0 c1 c2 c3 d0 d1 d2 d3 hsrc hk2 hb2 hbb hb12 hb1 hcs HSUM hcv HB8 HM8
      go_wp2_with (first | (refine Fr.wpList_shr rfl _ _ _ _ rfl .u32 .u64 Y _ Z0 (by rfl) (by rfl) 24 rfl (by decide) H0.out ?_) | (refine Fr.wpList_shr rfl _ _ _ _ rfl .u32 .u64 Y _ Z1 (by rfl) (by rfl) 16 rfl (by decide) H1.out ?_) | (refine Fr.wpList_shr rfl _ _ _ _ rfl .u32 .u64 Y _ Z2 (by rfl) (by rfl) 8 rfl (by decide) H2.out ?_) | (refine Fr.wpList_conv rfl _ _ _ rfl .u32 .u8 Z0 _ (by rfl) (C0.out _) ?_) | (refine Fr.wpList_conv rfl _ _ _ rfl .u32 .u8 Z1 _ (by rfl) (C1.out _) ?_) | (refine Fr.wpList_conv rfl _ _ _ rfl .u32 .u8 Z2 _ (by rfl) (C2.out _) ?_) | (refine Fr.wpList_conv rfl _ _ _ rfl .u32 .u8 Y _ (by rfl) (C3.out _) ?_) | (at_builtin; refine Fr.wpList_append_src rfl _ _ 42 rfl B _ (Fr.nb x 8) (by rfl) HBY2.out (.slice (some ⟨g1, 0, none⟩) 4 4) [D0, D1, D2, D3] (by rfl) HSRC.out (by rw [Fr.nb_length]; show 8 + 4 ≤ _; omega) HBS2.out ?_; intro ad3 n3 cp3 w3 hB3 hM3))
      have HB3 : Hid (Fr.Bytes w3 B (.slice ad3 n3 cp3) (Fr.nb x 8 ++ Fr.nb cs 4)) := by rw [HNB.out]; exact hB3
      have HM3 := hide (HMV2.out.trans hM3)
      clear hB3 hM3 HBY2 HMV2 HSRC H0 H1 H2 C0 C1 C2 C3 hw2 hg1
      obtain ⟨P, hP⟩ : ∃ P, Fr.nb x 8 ++ Fr.nb cs 4 = P := ⟨_, rfl⟩
      rw [hP] at HB3 HR
      have HPL : Hid (P.length = 12) := by show _ = _; rw [← hP, List.length_append, Fr.nb_length, Fr.nb_length]
      clear hP
      go_loopw [3] (fun b wz => ∃ k : Nat, k ≤ 52 ∧ Fr.Bytes wz B b (P ++ List.replicate k 0) ∧ Fr.Mv w (.slice none 0 0) wz b) (fun b _ => 64 - slLen b)
      case atStart => exact ⟨0, by omega, by rw [List.replicate_zero, List.append_nil]; exact HB3.out, HM3.out⟩
      case round =>
        clear HB3 HM3
        obtain ⟨k, hk, hb, hM⟩ := hrel
        obtain ⟨ad4, cp4, hv4, _⟩ := row_at hb
        have hl4 : (P ++ List.replicate k 0).length = 12 + k := by rw [List.length_append, HPL.out, List.length_replicate]
        rw [hl4] at hv4
        subst hv4
        have HS4 : Hid (B ≤ wr.heap.size) := by rw [← HB.out]; exact hM.gr.size
        have HBY := hide hb
        have HMM := hide hM
        by_cases hlt : k < 52
        · have hd : decide (((12 + k : Nat) : Int) < 64) = true := decide_eq_true (by omega)
          have hd2 : decide (12 + k < 64) = true := decide_eq_true (by omega)
          have HLL : Hid ((P ++ List.replicate k 0).length + 1 ≤ 140737488355328) := by show _ ≤ _; rw [hl4]; omega
          clear hb hM hl4
          go_wp2_with (first | (at_builtin; refine Fr.wpList_append_byte rfl _ _ rfl B _ (P ++ List.replicate k 0) 0 0 rfl (by rfl) HBY.out (by rfl) rfl HLL.out HS4.out ?_; intro g cap w5 hB5 hM5))
          go_roundw
          case rel =>
            have e : (P ++ List.replicate k (0 : UInt8)).length + 1 = P.length + k + 1 := by rw [List.length_append, List.length_replicate]
            rw [List.append_assoc, ← List.replicate_succ', e] at hB5
            rw [e] at hM5
            exact ⟨k + 1, by omega, hB5, HMM.out.trans hM5⟩
          case measure =>
            have e : (P ++ List.replicate k (0 : UInt8)).length + 1 = 12 + k + 1 := by rw [List.length_append, HPL.out, List.length_replicate]
            simp only [slLen, List.length_append, HPL.out, List.length_replicate]
            omega
        · have hk52 : k = 52 := by omega
          subst hk52
          have hcv := hb.conv
          rw [← HR.out] at hcv
          have HBF : Hid (Below B w wr) := Fr.grown_below hM.gr (by simp [Value.ownBlock]) (by rw [HB.out]; exact Nat.le_refl _)
          clear hb hM hl4 HBY HMM
          go_wp2
          go_ret
          exact ⟨rfl, HBF.out⟩
/-! ### whole -/
theorem be_snoc8 (l : List UInt8) (i : Nat) (hi : i < l.length) : Fr.be (l.take (i + 1)) = Fr.be (l.take i) * 256 + (l[i]).toNat := by
  rw [List.take_succ_eq_append_getElem hi, Fr.be_snoc]
/-- What the loop holds behind i bytes. -/
def accI (l : List UInt8) (i : Nat) : Int := IntKind.i64.wrap (Fr.be (l.take i) : Int)
end Go.Proofs.YtlkimfmilccanaaGreat
