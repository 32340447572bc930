import Derived.Test.YtlkimfmilccanaaGreatKName
import Derived.Laws.Concat
import Derived.Test.YtlkimfmilccanaaGreatCurLay
import Derived.Deep.RegionHeld3
/-
  A payload's bytes: four, sumOf, bytesOf, payloadOf.
-/
namespace Go.Proofs.YtlkimfmilccanaaGreat
open Go.RowKit Go.Maps
set_option linter.unusedVariables false
theorem k8_digit (x j m : Nat) (hm : 8 * (4 - 1 - j) = m) : IntKind.u8.wrap ((x : Int) / (2 : Int) ^ m) = ((Fr.digit x 4 j).toNat : Int) := by
  unfold Fr.digit
  rw [hm, Fr.toNat_ofNat8]
  have e : (x : Int) / (2 : Int) ^ m = ((x / 2 ^ m : Nat) : Int) := by simp
  rw [e]
  simp [IntKind.wrap, IntKind.bits, IntKind.signed]
theorem kconv_u8 (Z : Int) (w : World) : (convert 88 5 (.int .u32 Z)).run Tryz.prog w = .ok (.int .u8 (IntKind.u8.wrap Z)) w := by
  have h := run_convert_int (P := Tryz.prog) (w := w) 88 5 .u32 Z (by kernel_rfl) (by kernel_rfl)
  rw [show Tryz.prog.intKind 5 = .u8 by kernel_rfl] at h
  exact h
theorem kconv_u32 (n : Nat) (hn : n < 4294967296) (w : World) : (convert 3 88 (.int .i64 (n : Int))).run Tryz.prog w = .ok (.int .u32 (n : Int)) w := by
  have h := run_convert_int (P := Tryz.prog) (w := w) 3 88 .i64 (n : Int) (by kernel_rfl) (by kernel_rfl)
  rw [show Tryz.prog.intKind 88 = .u32 by kernel_rfl] at h
  rw [h, show IntKind.u32.wrap (n : Int) = (n : Int) by simp [IntKind.wrap, IntKind.bits, IntKind.signed]; omega]
def B4 (x : Nat) : ByteArray := ⟨(Fr.nb x 4).toArray⟩
theorem B4_list (x : Nat) : (B4 x).data.toList = Fr.nb x 4 := rfl
theorem B4_size (x : Nat) : (B4 x).size = 4 := by rw [← str_len, B4_list, Fr.nb_length]
theorem Bytes.made (w : World) (l : List UInt8) (hl : l.length ≤ maxLen) : Bytes (w.alloc (.cells (l.map byteV).toArray 5)) 0 (.slice (some ⟨w.heap.size, 0, none⟩) l.length l.length) l := by
  unfold Bytes
  refine ⟨by simp, .inr ⟨w.heap.size, _, _, rfl, Nat.zero_le _, heap_alloc_new w _, Nat.le_refl _, hl, by simp, by simp only [Nat.mul_one]; exact List.take_of_length_le (by simp)⟩⟩
theorem conv_made (w : World) (l : List UInt8) (hl : l.length ≤ maxLen) : (convert 42 9 (.slice (some ⟨w.heap.size, 0, none⟩) l.length l.length)).run Tryz.prog (w.alloc (.cells (l.map byteV).toArray 5)) = .ok (.string ⟨l.toArray⟩) (w.alloc (.cells (l.map byteV).toArray 5)) := by
  have h := Bytes.made w l hl
  rw [run_conv_piece _ h (Piece.whole h) (by omega)]
  simp
theorem nb4 (x : Nat) : Fr.nb x 4 = [Fr.digit x 4 0, Fr.digit x 4 1, Fr.digit x 4 2, Fr.digit x 4 3] := rfl
-- left out in this seat: four_any
-- left out in this seat: sumOf_any
theorem run_slice_str_to (w : World) (s : ByteArray) (i : Nat) (hi : i ≤ s.size) : (Instr.slice 9 (.string s) none (some (.int .i64 (i : Int))) none).run Tryz.prog w = .ok (.string (s.extract 0 i)) w := by
  simp [Instr.slice, run_underlying Tryz.underlying9, go_sem, hi]
theorem run_slice_str_mid (w : World) (s : ByteArray) (i j : Nat) (hj : j ≤ s.size) (hij : i ≤ j) : (Instr.slice 9 (.string s) (some (.int .i64 (i : Int))) (some (.int .i64 (j : Int))) none).run Tryz.prog w = .ok (.string (s.extract i j)) w := by
  simp [Instr.slice, run_underlying Tryz.underlying9, go_sem, hj, hij]
end Go.Proofs.YtlkimfmilccanaaGreat
/-
  bytesOf, payloadOf.
-/
namespace Go.Proofs.YtlkimfmilccanaaGreat
open Go.RowKit Go.Maps
set_option linter.unusedVariables false
theorem k_drewN (w : World) (n : Nat) : Below w.heap.size w (w.drewN n) := ⟨rfl, rfl, rfl, Nat.le_refl _, fun _ _ => rfl⟩
theorem k_num : Nonempty Fr.C.Num := ⟨⟨fun b => (b.toNat : Int), fun _ => rfl⟩⟩
theorem k_app (a b : ByteArray) : (a ++ b).data.toList = a.data.toList ++ b.data.toList := by simp
theorem k_ext {a b : ByteArray} (h : a.data.toList = b.data.toList) : a = b := by
  apply ByteArray.ext
  exact Array.toList_inj.1 h
theorem k_add (w : World) (a b c : ByteArray) (hc : a ++ b = c) (h : a.size + b.size ≤ 1000000000) : (Op.stringOp .add a b).run Tryz.prog w = .ok (.string c) w := by
  rw [← hc]; exact run_string_add_sum w a b (by omega)
-- left out in this seat: bytesOf_any
theorem wholeP_iff {t : Key} (h8 : 8 ≤ t.length) (hm : t.length - 8 ≤ 1048448) : wholeP t = (if t.take 4 = Fr.nb (t.drop 8).length 4 ∧ (t.drop 4).take 4 = Fr.nb (psum (t.drop 8)) 4 then some (t.drop 8) else none) := by
  have e : t = t.take 4 ++ ((t.drop 4).take 4 ++ t.drop 8) := by
    conv => lhs; rw [← List.take_append_drop 4 t, ← List.take_append_drop 4 (t.drop 4), List.drop_drop]
  have hi : pbytes (t.drop 8) = t ↔ (t.take 4 = Fr.nb (t.drop 8).length 4 ∧ (t.drop 4).take 4 = Fr.nb (psum (t.drop 8)) 4) := by
    constructor
    · intro h
      have h1 := pbytes_take (t.drop 8)
      have h2 := pbytes_mid (t.drop 8)
      rw [h] at h1 h2
      exact ⟨h1, h2⟩
    · rintro ⟨h1, h2⟩
      unfold pbytes
      rw [← h1, ← h2]
      exact e.symm
  unfold wholeP
  by_cases hc : t.take 4 = Fr.nb (t.drop 8).length 4 ∧ (t.drop 4).take 4 = Fr.nb (psum (t.drop 8)) 4
  · rw [if_pos hc, if_pos ⟨h8, hm, hi.2 hc⟩]
  · rw [if_neg hc, if_neg (fun h => hc (hi.1 h.2.2))]
theorem k_extract (s : ByteArray) (i j : Nat) (hij : i ≤ j) : (s.extract i j).data.toList = (s.data.toList.drop i).take (j - i) := by
  rw [ByteArray.data_extract, Array.toList_extract, List.extract_eq_take_drop]
theorem k_beq (a b : ByteArray) : (a.toList == b.toList) = decide (a = b) := by
  rw [ByteArray.toList_eq, ByteArray.toList_eq]
  by_cases h : a = b
  · rw [h, decide_eq_true rfl]; simp
  · rw [decide_eq_false h]
    exact beq_eq_false_iff_ne.2 (fun e => h (k_ext e))
-- left out in this seat: payloadOf_any
end Go.Proofs.YtlkimfmilccanaaGreat
/-
  A slot's bytes: bytesOf, isNumber, other.
-/
namespace Go.Proofs.YtlkimfmilccanaaGreat
open Go.RowKit Go.Maps
set_option linter.unusedVariables false
set_option linter.unusedSimpArgs false
theorem isNumber_any (v : Int) (w : World) : Calls Tryz.prog 37 #[.int .i64 v] w fun e w' => e = .returned (.bool (numB v)) ∧ w' = w := by
  unfold numB
  by_cases h1 : -1 ≤ v
  · have d1 : decide (v ≥ -1) = true := decide_eq_true h1
    have d1' : decide (-1 ≤ v) = true := decide_eq_true h1
    rw [d1']
    obtain ⟨b, hb⟩ : ∃ b, decide (v ≤ 281474976710655) = b := ⟨_, rfl⟩
    rw [hb]
    clear h1
    go_enter Tryz.func37, Tryz.ntmps37
    go_wp2
    go_ret
    exact ⟨by simp, rfl⟩
  · have d1 : decide (v ≥ -1) = false := decide_eq_false h1
    have d1' : decide (-1 ≤ v) = false := decide_eq_false h1
    rw [d1']
    clear h1
    go_enter Tryz.func37, Tryz.ntmps37
    go_wp2
    go_ret
    exact ⟨by simp, rfl⟩
theorem other_any (k : Int) (w : World) (hk : 0 ≤ k ∧ k ≤ 1) : Calls Tryz.prog 40 #[.int .i64 k] w fun e w' => e = .returned (.int .i64 (1 - k)) ∧ w' = w := by
  have h1 : wrap64 (1 - k) = 1 - k := by unfold wrap64; omega
  go_enter Tryz.func40, Tryz.ntmps40
  go_wp2
  go_ret
  exact ⟨by simp, rfl⟩
theorem wrap_bits (v : Int) : IntKind.u64.wrap v = ((bits64 v : Nat) : Int) := by
  unfold bits64
  simp [IntKind.wrap, IntKind.bits, IntKind.signed]
  omega
set_option maxRecDepth 5000 in
set_option maxHeartbeats 2000000 in
theorem bytesOfM_any (v : Int) (w : World) : Calls Tryz.prog 38 #[.int .i64 v] w fun e w' => e = .returned (.string ⟨(slotL v).toArray⟩) ∧ Below w.heap.size w w' := by
  obtain ⟨m, hm⟩ : ∃ m, bits64 v = m := ⟨_, rfl⟩
  have HW : Hid (IntKind.u64.wrap v = ((m : Nat) : Int)) := by show _ = _; rw [← hm]; exact wrap_bits v
  obtain ⟨R, hR⟩ : ∃ R : ByteArray, (⟨(slotL v).toArray⟩ : ByteArray) = R := ⟨_, rfl⟩
  have HR : Hid (R = ⟨(Fr.nb m 8 ++ Fr.nb (crcN (Fr.nb m 8)) 4 ++ List.replicate 52 0).toArray⟩) := by
    show _ = _
    rw [← hR]
    unfold slotL slotH
    rw [hm]
  rw [hR]
  clear hR hm
  go_enter Tryz.func38, Tryz.ntmps38
  go_wp2_with fail
  refine (Fr.wNew _).mono ?_
  rintro e w1 ⟨rfl, h1, hb1, hs1⟩
  have HS1 := hide hs1
  clear hs1
  go_wp2_with fail
  refine (Fr.wI64 v m HW.out _ _ _ _ h1 (fun l e => by cases e; simp)).mono ?_
  rintro e w2 ⟨rfl, v2, h2, hM2⟩
  have H2 : Hid (Fr.CW w2 w.heap.size v2 (some (Fr.nb m 8))) := by
    have := h2
    simp only [Option.map_some, List.nil_append] at this
    exact this
  go_wp2_with fail
  obtain ⟨Hd, hHd⟩ : ∃ S : ByteArray, S = ⟨(Fr.nb m 8).toArray⟩ := ⟨_, rfl⟩
  have HHd : Hid (Hd.data.toList = Fr.nb m 8) := by show _ = _; rw [hHd]
  refine (Fr.wOut_l _ _ _ _ H2.out Hd hHd).mono ?_
  rintro e w3 ⟨rfl, hb3⟩
  have h3 := H2.out.below hb3
  obtain ⟨Z, hZ⟩ : ∃ Z : Int, Z = ((Fr.C.on 0#32 Hd.data.toList).toNat : Int) := ⟨_, rfl⟩
  have HZ := hide hZ
  have HZ2 : Hid (Z = (crcN (Fr.nb m 8) : Int)) := by show _ = _; rw [hZ, HHd.out]; rfl
  have HHs : Hid (Hd.size ≤ maxLen) := by
    show _ ≤ _
    rw [← str_len, HHd.out, Fr.nb_length]; unfold maxLen; omega
  clear hHd hZ
  go_wp2_with fail
  refine (Fr.crcSum_any Hd _ HHs.out Z HZ.out).mono ?_
  rintro e w4 ⟨rfl, hb4⟩
  have h4 := h3.below hb4
  go_wp2_with fail
  refine (Fr.wU32 Z _ HZ2.out _ _ _ _ h4 (fun l e => by cases e; simp [Fr.nb_length])).mono ?_
  rintro e w5 ⟨rfl, v5, h5, hM5⟩
  go_wp2_with fail
  refine (Fr.repeat_any 52 _ (by decide) _ rfl).mono ?_
  rintro e w6 ⟨rfl, hb6⟩
  have h6 := h5.below hb6
  obtain ⟨F, hF⟩ : ∃ F : ByteArray, (⟨(List.replicate 52 0).toArray⟩ : ByteArray) = F := ⟨_, rfl⟩
  rw [hF]
  have HFl : Hid (F.data.toList = List.replicate 52 0) := by show _ = _; rw [← hF]
  have HFs : Hid (F.size = 52) := by show _ = _; rw [← str_len, HFl.out, List.length_replicate]
  clear hF
  go_wp2_with fail
  refine (Fr.wRaw F _ _ _ _ h6 (fun l e => by have := HFs.out; cases e; simp [Fr.nb_length]; omega)).mono ?_
  rintro e w7 ⟨rfl, v7, h7, hM7⟩
  have H7 : Hid (Fr.CW w7 w.heap.size v7 (some (Fr.nb m 8 ++ Fr.nb (crcN (Fr.nb m 8)) 4 ++ List.replicate 52 0))) := by
    have := h7
    rw [HFl.out] at this
    simp only [Option.map_some, List.nil_append] at this
    exact this
  go_wp2_with fail
  refine (Fr.wOut_l _ _ _ _ H7.out R HR.out).mono ?_
  rintro e w8 ⟨rfl, hb8⟩
  go_wp2
  go_ret
  have q2 : w.heap.size ≤ w2.heap.size := Nat.le_trans hb1.size hM2.size
  have q3 : w.heap.size ≤ w3.heap.size := Nat.le_trans q2 hb3.size
  have q4 : w.heap.size ≤ w4.heap.size := Nat.le_trans q3 hb4.size
  have q5 : w.heap.size ≤ w5.heap.size := Nat.le_trans q4 hM5.size
  have q6 : w.heap.size ≤ w6.heap.size := Nat.le_trans q5 hb6.size
  have q7 : w.heap.size ≤ w7.heap.size := Nat.le_trans q6 hM7.size
  have own : ∀ {wx : World} {vx : Value} {sx : Option (List UInt8)}, Fr.CW wx w.heap.size vx sx → ∀ k, vx.ownBlock = some k → w.heap.size ≤ k := fun hx k hk => by have := (hx.own k hk).1; omega
  exact ⟨rfl, ((((((hb1.trans (hM2.below (Nat.le_refl _) hb1.size (own h1))).trans (hb3.mono q2)).trans (hb4.mono q3)).trans (hM5.below (Nat.le_refl _) q4 (own h4))).trans (hb6.mono q5)).trans (hM7.below (Nat.le_refl _) q6 (own h6))).trans (hb8.mono q7)⟩
end Go.Proofs.YtlkimfmilccanaaGreat
/-
  A region that draws its order and whose last operation, for which all others must have come, turns what the others read: S holds behind every operation but that one.
-/
namespace Go.Proofs.YtlkimfmilccanaaGreat
section
variable {P : Program} {ops : Array Oper} {md : Region.Mode} {Q : Exit → Act → World → Prop} {S : World → Prop} {st : Nat}
def wpAnyT (P : Program) (md : Region.Mode) (ops : Array Oper) (Q : Exit → Act → World → Prop) (S : World → Prop) (st : Nat) : Nat → Array Bool → Act → World → Prop
  | 0, listed, a, w => Region.ready md ops listed = [] ∧ Q .normal a w
  | fuel + 1, listed, a, w =>
    (Region.ready md ops listed = [] → Q .normal a w) ∧
    ∀ i ∈ Region.ready md ops listed, wpOp P ops Q i (fun a' w' => (i ≠ st → S w') ∧ wpAnyT P md ops Q S st fuel (listed.setIfInBounds i true) a' w') a w
theorem wpAny_of_T : ∀ (fuel : Nat) (listed : Array Bool) (a : Act) (w : World), wpAnyT P md ops Q S st fuel listed a w → wpAny P md ops Q fuel listed a w
  | 0, _, _, _, h => h
  | fuel + 1, _, _, _, h => ⟨h.1, fun i hi => wpOp_mono (fun a' w' h' => wpAny_of_T fuel _ a' w' h'.2) (h.2 i hi)⟩
/-- Operation st waits for operation i. -/
def waitsB (md : Region.Mode) (ops : Array Oper) (st i : Nat) : Bool := match ops[st]? with
  | some o => o.after.any (fun e => Region.binds md e && e.on == i)
  | none => false
theorem first_T {i : Nat} {oi : Oper} {v : Value} (hi : ops[i]? = some oi) (hsel : ∀ (j : Nat) (o : Oper) cs b, ops[j]? = some o → o.op ≠ .select cs b)
    (hQ : ∀ c a w, Q (.panic c) (a.put oi.dst v) w → Q (.panic c) a w) (hw : waitsB md ops st i = true) (hist : i ≠ st) :
    ∀ (fuel : Nat) (listed : Array Bool) (a : Act) (w : World),
      (∀ j oj, ops[j]? = some oj → j ≠ i → listed.getD j true = false → (∀ e ∈ oj.after, Region.binds md e = true → e.on ≠ i) → oi.apart ops oj = true) →
      i ∈ Region.ready md ops listed → YieldsIf P ops S oi v a → S w →
      wpAnyT P md ops Q S st fuel (listed.setIfInBounds i true) (a.put oi.dst v) w → wpAnyT P md ops Q S st (fuel + 1) listed a w := by
  intro fuel
  induction fuel with
  | zero =>
    intro listed a w _ hr hy hS H
    refine ⟨fun h => (by rw [h] at hr; cases hr), fun j hj => ?_⟩
    by_cases hji : j = i
    · subst hji; exact hy.wpOp hi hS ⟨fun _ => hS, H⟩
    · have := ready_mono hj hji
      rw [H.1] at this
      cases this
  | succ fuel ih =>
    intro listed a w hfree hr hy hS H
    refine ⟨fun h => (by rw [h] at hr; cases hr), fun j hj => ?_⟩
    by_cases hji : j = i
    · subst hji; exact hy.wpOp hi hS ⟨fun _ => hS, H⟩
    · have h1 := H.2 j (ready_mono hj hji)
      obtain ⟨hjun, oj, hoj, hall⟩ := mem_ready.1 hj
      have hnot : ∀ e ∈ oj.after, Region.binds md e = true → e.on ≠ i := fun e he hb heq => by
        have h1 := hall e he hb
        have h0 := (mem_ready.1 hr).1
        rw [heq] at h1
        rcases Nat.lt_or_ge i listed.size with h' | h'
        · simp [h'] at h0 h1; rw [h0] at h1; cases h1
        · simp [Array.getElem?_eq_none h'] at h1
      have hjst : j ≠ st := fun e => by
        subst e
        unfold waitsB at hw
        rw [hoj] at hw
        obtain ⟨e, he, hb⟩ := Array.any_eq_true'.1 hw
        simp only [Bool.and_eq_true, beq_iff_eq] at hb
        exact hnot e he hb.1 hb.2
      have h2 := wpOp_putIf hoj (hfree j oj hoj hji hjun hnot) (fun cs b => hsel i oi cs b hi) (fun cs b => hsel j oj cs b hoj) hQ hy h1
      have hfree' : ∀ k ok, ops[k]? = some ok → k ≠ i → (listed.setIfInBounds j true).getD k true = false →
          (∀ e ∈ ok.after, Region.binds md e = true → e.on ≠ i) → oi.apart ops ok = true := fun k ok hk hki hun hno => by
        refine hfree k ok hk hki ?_ hno
        by_cases hjk : j = k
        · subst hjk; exact hjun
        · rw [getD_set_ne true hjk] at hun; exact hun
      refine wpOp_mono (fun a' w' h3 => ⟨h3.2.1, ih (listed.setIfInBounds j true) a' w' hfree' (ready_mono hr (Ne.symm hji)) h3.1 (h3.2.1 hjst) ?_⟩) h2
      rw [Array.setIfInBounds_comm _ _ hji]
      exact h3.2.2
theorem takeT (i : Nat) (d : Option Tmp) (v : Value) {oi : Oper} {fuel : Nat} {listed : Array Bool} {a : Act} {w : World} (hi : ops[i]? = some oi) (hd : oi.dst = d)
    (hs : Region.noSelect ops = true) (hf : Region.free md ops listed i = true) (hr : (Region.ready md ops listed).contains i = true) (hwt : waitsB md ops st i = true) (hst : i ≠ st)
    (hQ : ∀ c a w, Q (.panic c) (a.put oi.dst v) w → Q (.panic c) a w) (hw : Region.wanted oi (yielded ops a.tmps) = true) (hy : ∀ w, S w → (execOp a.eval oi).run P w = .ok (.value v) w) (hS : S w)
    (h : wpAnyT P md ops Q S st fuel (listed.setIfInBounds i true) (a.put d v) w) : wpAnyT P md ops Q S st (fuel + 1) listed a w :=
  first_T hi (Region.noSelect_spec hs) hQ hwt hst fuel listed a w (Region.free_spec hi hf) (by simpa using hr) (.inl ⟨hw, hy⟩) hS (by rw [hd]; exact h)
theorem tU (i : Nat) (d : Option Tmp) (v : Value) {oi : Oper} {fuel : Nat} {listed : Array Bool} {a : Act} {w : World} (hi : ops[i]? = some oi)
    (hy : ∀ w, S w → (execOp a.eval oi).run P w = .ok (.value v) w) (hS : S w) (h : wpAnyT P md ops Q S st fuel (listed.setIfInBounds i true) (a.put d v) w) (hd : oi.dst = d := by rfl)
    (hs : Region.noSelect ops = true := by kernel_rfl) (hf : Region.free md ops listed i = true := by kernel_rfl) (hr : (Region.ready md ops listed).contains i = true := by kernel_rfl) (hwt : waitsB md ops st i = true := by kernel_rfl) (hst : i ≠ st := by decide)
    (hQ : ∀ c a w, Q (.panic c) (a.put oi.dst v) w → Q (.panic c) a w := by exact fun _ _ _ h => h) (hw : Region.wanted oi (yielded ops a.tmps) = true := by rfl) : wpAnyT P md ops Q S st (fuel + 1) listed a w :=
  takeT i d v hi hd hs hf hr hwt hst hQ hw hy hS h
theorem tT (i : Nat) (d : Option Tmp) (v : Value) {oi : Oper} {fuel : Nat} {listed : Array Bool} {a : Act} {w : World} (hi : ops[i]? = some oi)
    (hS : S w) (h : wpAnyT P md ops Q S st fuel (listed.setIfInBounds i true) (a.put d v) w) (hd : oi.dst = d := by rfl)
    (hs : Region.noSelect ops = true := by kernel_rfl) (hf : Region.free md ops listed i = true := by kernel_rfl) (hr : (Region.ready md ops listed).contains i = true := by kernel_rfl) (hwt : waitsB md ops st i = true := by kernel_rfl) (hst : i ≠ st := by decide)
    (hQ : ∀ c a w, Q (.panic c) (a.put oi.dst v) w → Q (.panic c) a w := by exact fun _ _ _ h => h) (hw : Region.wanted oi (yielded ops a.tmps) = true := by rfl)
    (hy : ∀ w, S w → (execOp a.eval oi).run P w = .ok (.value v) w := by intro w hw; first | rfl | (go_simp; done) | (go_simp; rfl)) : wpAnyT P md ops Q S st (fuel + 1) listed a w :=
  takeT i d v hi hd hs hf hr hwt hst hQ hw hy hS h
/-- Just one may come up. -/
theorem readyT (i : Nat) {o : Oper} {fuel : Nat} {listed : Array Bool} {a : Act} {w : World} (hr : Region.ready md ops listed = [i]) (ho : ops[i]? = some o) (hw : Region.wanted o (yielded ops a.tmps) = true)
    (h : ∀ K' : Act → World → Prop, Shut (∀ a w, (i ≠ st → S w) → ((i ≠ st → S w) → wpAnyT P md ops Q S st fuel (listed.setIfInBounds i true) a w) → K' a w) → Oper.wp P o a w K' Q) : wpAnyT P md ops Q S st (fuel + 1) listed a w := by
  refine ⟨fun h0 => (by rw [hr] at h0; cases h0), fun j hj => ?_⟩
  rw [hr] at hj
  obtain rfl : j = i := by simpa using hj
  exact wpOp_step ho (fun K' hK => by
    rw [if_pos hw]
    exact h K' (fun a w hS hW => hK a w ⟨hS, hW hS⟩))
theorem wp_region_T {id : Nat} {a : Act} {w : World} (st : Nat) (hm : P.follows .mixedOrders = true) (hS : S w.drew)
    (h : S w.drew → wpAnyT P .any ops Q S st ops.size (Array.replicate ops.size false) a w.drew) : (Code.region id ops true).wp P Q a w :=
  wp_region_any hm (wpAny_of_T _ _ _ _ (h hS))
end
end Go.Proofs.YtlkimfmilccanaaGreat
