import Derived.Test.YtobfijpfdibccaaGreatRefCrash
import Derived.Test.YtobfijpfdibccaaGreatKLoad
/-
  DiskPlays: told; tools for lists of items.
-/
namespace Go.Proofs.YtobfijpfdibccaaGreat
open Go.RowKit Go.Maps Go.WideMaps
set_option linter.unusedVariables false
set_option linter.unusedSimpArgs false
theorem get_push {α : Type} {L M : List α} {i : Nat} {x : α} (h : L[i]? = some x) : (L ++ M)[i]? = some x := by
  rw [List.getElem?_append_left (List.getElem?_eq_some_iff.1 h).1]; exact h
theorem get_last {α : Type} (L : List α) (x : α) : (L ++ [x])[L.length]? = some x := by simp
theorem get_set {α : Type} {L : List α} {i : Nat} {x : α} (h : L[i]? = some x) (y : α) : (L.set i y)[i]? = some y := List.getElem?_set_self (List.getElem?_eq_some_iff.1 h).1
theorem get_set_ne {α : Type} {L : List α} {i j : Nat} {x y : α} (h : L[j]? = some x) (hij : i ≠ j) : (L.set i y)[j]? = some x := by rw [List.getElem?_set_ne hij]; exact h
theorem dirty_len {A : AD} (h : A.Ok) (k : Key) : (A.dirtyI k).length ≤ maxLen := by
  unfold AD.dirtyI AD.dirty
  rw [List.length_map]
  split
  · exact Nat.zero_le _
  · cases hg : fget A.fs k with
    | none => exact Nat.zero_le _
    | some F => exact Nat.le_trans (AF.dirtyL_length (h.files _ (fget_mem hg))) (by unfold maxLen; omega)
theorem list_len {A : AD} (h : A.Ok) : A.list.length ≤ maxLen := by
  unfold AD.list
  split
  · exact Nat.zero_le _
  · unfold fkeys
    rw [List.length_map]
    exact Nat.le_trans h.few (by unfold maxLen; omega)
/-- Some of the items, in another order. -/
theorem Lies.pick {B : Nat} {w : World} {L M : List Item} (h : Lies B w L) (f : Nat → Nat) (hf : ∀ i j, i < M.length → j < M.length → f i = f j → i = j) (hM : ∀ i (x : Item), M[i]? = some x → L[f i]? = some x) : Lies B w M := by
  obtain ⟨hb, S, h1, h2, h3⟩ := h
  have lt : ∀ i, i < M.length → f i < L.length := fun i hi => (List.getElem?_eq_some_iff.1 (hM i M[i] (List.getElem?_eq_getElem hi))).1
  exact ⟨hb, fun i => S (f i), fun i x hi => h1 (f i) x (hM i x hi), fun i b hi hs => h2 (f i) b (lt i hi) hs, fun i j b hi hj hne => h3 (f i) (f j) b (lt i hi) (lt j hj) (fun e => hne (hf i j hi hj e))⟩
section
variable {B : Nat} {w : World} {L : List Item} {i j p r : Nat} {A : AD}
-- left out in this seat: told_any
end
def cellsT : List FT → List Value
  | [] => []
  | x :: r => x.cs.toList ++ cellsT r
theorem cellsT_length : ∀ xs : List FT, (cellsT xs).length = xs.length * 4
  | [] => rfl
  | x :: r => by
    show (x.cs.toList ++ cellsT r).length = _
    rw [List.length_append, cellsT_length r, List.length_cons]
    show 4 + _ = _
    omega
theorem cellsT_get : ∀ (xs : List FT) (k : Nat) (h : k < xs.length) (j : Nat), j < 4 → (cellsT xs)[k * 4 + j]? = (xs[k].cs)[j]?
  | [], k, h, _, _ => by simp at h
  | x :: r, 0, _, j, hj => by
    show (x.cs.toList ++ cellsT r)[0 * 4 + j]? = x.cs[j]?
    rw [List.getElem?_append_left (by show _ < 4; omega), Array.getElem?_toList]
    congr 1
    omega
  | x :: r, k + 1, h, j, hj => by
    show (x.cs.toList ++ cellsT r)[(k + 1) * 4 + j]? = _
    rw [List.getElem?_append_right (by show 4 ≤ _; omega)]
    show (cellsT r)[(k + 1) * 4 + j - 4]? = _
    rw [show (k + 1) * 4 + j - 4 = k * 4 + j by omega, cellsT_get r k (by simp at h; omega) j hj]
    rfl
theorem one_fate (x : FT) : ∀ u ∈ x.cs.toList, u.oneCell' = true := by
  intro u hu
  simp only [FT.cs, List.mem_cons, List.not_mem_nil, or_false] at hu
  rcases hu with rfl | rfl | rfl | rfl <;> rfl
theorem one_fates : ∀ xs : List FT, ∀ u ∈ cellsT xs, u.oneCell' = true
  | [], u, hu => by simp [cellsT] at hu
  | x :: r, u, hu => by
    rcases List.mem_append.1 hu with h | h
    · exact one_fate x u h
    · exact one_fates r u h
theorem infoT : (Tryz.prog.info? 99).map (fun i => (i.zero, i.size, i.bytes)) = some (some (.agg #[.string ⟨#[]⟩, .int .i64 0, .int .i64 0, .string ⟨#[]⟩]), 4, 48) := by kernel_rfl
theorem app_fates (w : World) (ad : Option Addr) (cap : Nat) (ls : List FT) (hfa : FatesAt w ad ls) (hsz : ls.length * 48 ≤ 140737488355328) (ty : TypeId) :
    ∃ v w', (Builtin.append_ #[32, 32] ty #[.slice none 0 0, .slice ad ls.length cap]).run Tryz.prog w = .ok v w' ∧ w'.ownsRow w.heap.size 99 4 v ls.length (cellsT ls) ∧ Below w.heap.size w w' := by
  obtain ⟨i, hi, hz0, hz1, hz2⟩ := info_parts infoT
  by_cases he : ls = []
  · subst he
    have hs : Src Tryz.prog i.size 32 (.slice ad 0 cap) 0 [] w := by
      cases ad with
      | none => exact Src.ofNil w Tryz.underlying32 cap
      | some a => exact Src.ofSlice w Tryz.underlying32 a 0 cap [] (by simp) (fun j u hu => by simp at hu) (by simp)
    exact ⟨_, _, run_append_nothing (P := Tryz.prog) w _ _ ty _ i Tryz.underlying32 hi none 0 0 (Nat.le_refl _) _ hs, World.ownsRow_nil _ _ _ _, Below.refl _ _⟩
  · rcases hfa with h | ⟨b, o, rfl, hl, hc⟩
    · exact absurd h he
    have hpos : 0 < ls.length := List.length_pos_iff.2 he
    obtain ⟨g, c, w', hr, h2, h3, h4, h5⟩ := run_append_lies (P := Tryz.prog) w 32 ty w.heap.size 99 i _ 4 48 Tryz.underlying32 hi hz0 hz1 hz2 rfl (by decide) (.slice none 0 0) 0 [] (World.ownsRow_nil _ _ _ _) ⟨b, o, none⟩ ls.length cap (cellsT ls) (cellsT_length ls) (fun j u hu => by
      have hj := (List.getElem?_eq_some_iff.1 hu).1
      rw [cellsT_length] at hj
      have e := cellsT_get ls (j / 4) (by omega) (j % 4) (by omega)
      rw [show j / 4 * 4 + j % 4 = j by omega, hu] at e
      rw [show (⟨b, o, none⟩ : Addr).add j = ⟨b, o + j, none⟩ by unfold Addr.add; split <;> simp_all]
      have := hc (j / 4) (by omega) (j % 4) (by omega)
      rw [show o + j / 4 * 4 + j % 4 = o + j by omega] at this
      rw [this, e]) (one_fates ls) hpos (by unfold maxLen; omega) (by omega) (Nat.le_refl _) _ rfl
    refine ⟨_, w', hr, ?_, ⟨h3.os, h3.tape, h3.output, h3.size, fun b hb => h3.block b hb (by simp [Value.ownBlock])⟩⟩
    simp only [Nat.zero_add, List.nil_append] at h2
    rw [Nat.zero_add]
    exact h2
theorem set_push {α : Type} {L M : List α} {i : Nat} {y x : α} (h : L[i]? = some y) : (L ++ M).set i x = L.set i x ++ M := List.set_append_left _ _ (List.getElem?_eq_some_iff.1 h).1
def mkF : FT := ⟨⟨#[109, 97, 114, 107]⟩, -7, 0, ⟨#[]⟩⟩
theorem Lies.reblock {B : Nat} {w w' : World} {L : List Item} {q g : Nat} {ob ob' : Obj} (h : Lies B w L) (hi : L[q]? = some (.block g ob)) (hn : w'.heap[g]? = some ob') (ht : Turn (fun b => b = g) w w') : Lies B w' (L.set q (.block g ob')) ∧ Below B w w' := by
  obtain ⟨S, hp, hB, _, hk⟩ := h.upd hi
  exact hk w' (.block g ob') (fun b => b = g) ⟨hn, fun _ => Iff.rfl⟩ ⟨ht.mono (fun b hb => (hp.2 b).2 hb), fun b hb => .inl ((hp.2 b).2 hb)⟩
section
variable {B : Nat} {w : World} {L : List Item} {i j p r : Nat} {A : AD}
theorem Lies.blockOf {q g : Nat} {ob : Obj} (h : Lies B w L) (hi : L[q]? = some (.block g ob)) : w.heap[g]? = some ob := by
  obtain ⟨S, hp, _⟩ := h.get hi
  exact hp.1
-- left out in this seat: crashes_any
end
end Go.Proofs.YtobfijpfdibccaaGreat
/-
  The document's four, Bytes, named, has.
-/
namespace Go.Proofs.YtobfijpfdibccaaGreat
open Go.RowKit Go.Maps Go.WideMaps
set_option linter.unusedVariables false
set_option maxRecDepth 5000 in
set_option maxHeartbeats 1000000 in
theorem rFour_any (x : Nat) (X : Int) (hX : X = (x : Int)) (w : World) : Calls Tryz.prog 72 #[.int .u32 X] w fun e w' => e = .returned (.string (B4 x)) ∧ Below w.heap.size w w' := by
  obtain ⟨Z0, h0⟩ : ∃ Z : Int, X / (2 : Int) ^ 24 = Z := ⟨_, rfl⟩
  obtain ⟨Z1, h1⟩ : ∃ Z : Int, X / (2 : Int) ^ 16 = Z := ⟨_, rfl⟩
  obtain ⟨Z2, h2⟩ : ∃ Z : Int, X / (2 : Int) ^ 8 = Z := ⟨_, rfl⟩
  obtain ⟨D0, d0⟩ : ∃ d, Fr.digit x 4 0 = d := ⟨_, rfl⟩
  obtain ⟨D1, d1⟩ : ∃ d, Fr.digit x 4 1 = d := ⟨_, rfl⟩
  obtain ⟨D2, d2⟩ : ∃ d, Fr.digit x 4 2 = d := ⟨_, rfl⟩
  obtain ⟨D3, d3⟩ : ∃ d, Fr.digit x 4 3 = d := ⟨_, rfl⟩
  have c0 : ∀ w : World, (convert 94 5 (.int .u32 Z0)).run Tryz.prog w = .ok (.int .u8 (D0.toNat : Int)) w := fun w => by rw [kconv_u8, ← h0, hX, k8_digit x 0 24 rfl, d0]
  have c1 : ∀ w : World, (convert 94 5 (.int .u32 Z1)).run Tryz.prog w = .ok (.int .u8 (D1.toNat : Int)) w := fun w => by rw [kconv_u8, ← h1, hX, k8_digit x 1 16 rfl, d1]
  have c2 : ∀ w : World, (convert 94 5 (.int .u32 Z2)).run Tryz.prog w = .ok (.int .u8 (D2.toNat : Int)) w := fun w => by rw [kconv_u8, ← h2, hX, k8_digit x 2 8 rfl, d2]
  have c3 : ∀ w : World, (convert 94 5 (.int .u32 X)).run Tryz.prog w = .ok (.int .u8 (D3.toNat : Int)) w := fun w => by
    have := k8_digit x 3 0 rfl
    rw [Int.pow_zero, Int.ediv_one] at this
    rw [kconv_u8, hX, this, d3]
  have hcv := conv_made w [D0, D1, D2, D3] (by show 4 ≤ maxLen; unfold maxLen; omega)
  have hcv' : (convert 70 9 (.slice (some ⟨w.heap.size, 0, none⟩) 4 4)).run Tryz.prog (w.alloc (.cells #[.int .u8 (D0.toNat : Int), .int .u8 (D1.toNat : Int), .int .u8 (D2.toNat : Int), .int .u8 (D3.toNat : Int)] 5)) = .ok (.string ⟨#[D0, D1, D2, D3]⟩) (w.alloc (.cells #[.int .u8 (D0.toNat : Int), .int .u8 (D1.toNat : Int), .int .u8 (D2.toNat : Int), .int .u8 (D3.toNat : Int)] 5)) := hcv
  have HB : Hid (B4 x = ⟨#[D0, D1, D2, D3]⟩) := by
    show _ = _
    unfold B4
    rw [nb4, d0, d1, d2, d3]
  have H0 := hide h0
  have H1 := hide h1
  have H2 := hide h2
  have C0 := hide c0
  have C1 := hide c1
  have C2 := hide c2
  have C3 := hide c3
  clear h0 h1 h2 c0 c1 c2 c3 d0 d1 d2 d3 hX hcv
  go_enter Tryz.func72, Tryz.ntmps72
  go_wp2_with (first | (refine Fr.wpList_shr rfl _ _ _ _ rfl .u32 .u64 X _ Z0 (by rfl) (by rfl) 24 rfl (by decide) H0.out ?_) | (refine Fr.wpList_shr rfl _ _ _ _ rfl .u32 .u64 X _ Z1 (by rfl) (by rfl) 16 rfl (by decide) H1.out ?_) | (refine Fr.wpList_shr rfl _ _ _ _ rfl .u32 .u64 X _ Z2 (by rfl) (by rfl) 8 rfl (by decide) H2.out ?_) | (refine Fr.wpList_conv rfl _ _ _ rfl .u32 .u8 Z0 _ (by rfl) (C0.out _) ?_) | (refine Fr.wpList_conv rfl _ _ _ rfl .u32 .u8 Z1 _ (by rfl) (C1.out _) ?_) | (refine Fr.wpList_conv rfl _ _ _ rfl .u32 .u8 Z2 _ (by rfl) (C2.out _) ?_) | (refine Fr.wpList_conv rfl _ _ _ rfl .u32 .u8 X _ (by rfl) (C3.out _) ?_))
  go_ret
  exact ⟨by rw [HB.out]; rfl, (Below.refl _ _).alloc (Nat.le_refl _) _⟩
set_option maxRecDepth 5000 in
set_option maxHeartbeats 1000000 in
theorem rBytes_any (s : ByteArray) (hs : s.size ≤ 1048576) (w : World) : Calls Tryz.prog 47 #[.string s] w fun e w' => e = .returned (.string ⟨(pbytes s.data.toList).toArray⟩) ∧ Below w.heap.size w w' := by
  obtain ⟨n⟩ := k_num
  obtain ⟨L, hL⟩ : ∃ L, B4 s.size = L := ⟨_, rfl⟩
  obtain ⟨S, hS⟩ : ∃ S, B4 (psum s.data.toList) = S := ⟨_, rfl⟩
  obtain ⟨D, hD⟩ : ∃ R, L ++ s = R := ⟨_, rfl⟩
  obtain ⟨LS, hLS⟩ : ∃ R, L ++ S = R := ⟨_, rfl⟩
  obtain ⟨R, hR⟩ : ∃ R, LS ++ s = R := ⟨_, rfl⟩
  obtain ⟨Z, hZ⟩ : ∃ Z, n.u (Fr.C.on 0#32 D.data.toList) = Z := ⟨_, rfl⟩
  have hLl : L.data.toList = Fr.nb s.data.toList.length 4 := by rw [← hL, B4_list, str_len]
  have zL : L.size = 4 := by rw [← hL, B4_size]
  have zS : S.size = 4 := by rw [← hS, B4_size]
  have zLS : LS.size = 8 := by rw [← hLS, ByteArray.size_append, zL, zS]
  have zD : D.size = 4 + s.size := by rw [← hD, ByteArray.size_append, zL]
  have a0 : ∀ w : World, (Op.stringOp .add L s).run Tryz.prog w = .ok (.string D) w := fun w => k_add w L s D hD (by omega)
  have a1 : ∀ w : World, (Op.stringOp .add L S).run Tryz.prog w = .ok (.string LS) w := fun w => k_add w L S LS hLS (by omega)
  have a2 : ∀ w : World, (Op.stringOp .add LS s).run Tryz.prog w = .ok (.string R) w := fun w => k_add w LS s R hR (by omega)
  have HR : Hid (R = ⟨(pbytes s.data.toList).toArray⟩) := by
    refine k_ext ?_
    rw [← hR, ← hLS, k_app, k_app, hLl, ← hS, B4_list]
    show _ = pbytes s.data.toList
    unfold pbytes
    rw [List.append_assoc]
  have cv : ∀ w : World, (convert 3 94 (.int .i64 (s.size : Int))).run Tryz.prog w = .ok (.int .u32 (s.size : Int)) w := fun w => kconv_u32 s.size (by omega) w
  have k1 : Hid (∀ w : World, Calls Tryz.prog 72 #[.int .u32 (s.size : Int)] w fun e w' => e = .returned (.string L) ∧ Below w.heap.size w w') := fun w => by rw [← hL]; exact rFour_any s.size _ rfl w
  have k2 : Hid (∀ w : World, Calls Tryz.prog 73 #[.string D] w fun e w' => e = .returned (.int .u32 Z) ∧ w' = w) := fun w => by rw [← hZ]; exact Fr.refSum_any n D w (by unfold maxLen; omega)
  have k3 : Hid (∀ w : World, Calls Tryz.prog 72 #[.int .u32 Z] w fun e w' => e = .returned (.string S) ∧ Below w.heap.size w w') := fun w => by
    rw [← hS]
    refine rFour_any _ _ ?_ w
    rw [← hZ, n.eq, ← hD, k_app, hLl]; rfl
  have CV := hide cv
  clear hL hS hLS hR hZ hLl zL zS zLS zD hD hs cv
  go_enter Tryz.func47, Tryz.ntmps47
  go_wp2_with (first | (refine Fr.wpList_conv rfl _ _ _ rfl .i64 .u32 (s.size : Int) _ (by rfl) (CV.out _) ?_) | fail)
  refine (k1.out _).mono ?_
  rintro e w1 ⟨rfl, hb1⟩
  go_wp2_with fail
  refine (k2.out _).mono ?_
  rintro e w2 ⟨rfl, hw⟩
  obtain rfl := hw.symm
  clear hw
  go_wp2_with fail
  refine (k3.out _).mono ?_
  rintro e w3 ⟨rfl, hb3⟩
  have HB := hide (hb1.trans (hb3.mono hb1.size))
  clear hb1 hb3
  go_wp2
  go_ret
  exact ⟨by rw [HR.out]; rfl, HB.out⟩
theorem named_eq (k : Key) : knameOk k = (nameOk k && decide (k.length ≤ 28)) := by
  rw [knameOk_eq, nameOk_eq]
  by_cases h : k.length ≤ 28
  · rw [decide_eq_true h, decide_eq_true (by omega : k.length ≤ 32)]
    cases decide (1 ≤ k.length) <;> cases k.all chOk <;> rfl
  · rw [decide_eq_false h]
    cases decide (1 ≤ k.length) <;> cases k.all chOk <;> simp
set_option maxRecDepth 5000 in
theorem named_any (s : ByteArray) (hs : s.size ≤ maxLen) (w : World) : Calls Tryz.prog 44 #[.string s] w fun e w' => e = .returned (.bool (knameOk s.data.toList)) ∧ w' = w := by
  have HE := hide (named_eq s.data.toList)
  have hc := rName_any s hs w
  obtain ⟨nb, hnb⟩ : ∃ b, nameOk s.data.toList = b := ⟨_, rfl⟩
  rw [hnb] at hc
  have HN := hide hnb
  clear hnb hs
  by_cases h : s.size ≤ 28
  · have hd : decide ((s.size : Int) ≤ 28) = true := decide_eq_true (by omega)
    have HD : Hid (decide (s.data.toList.length ≤ 28) = true) := decide_eq_true (by rw [str_len]; exact h)
    clear h
    go_enter Tryz.func44, Tryz.ntmps44
    go_wp2_with fail
    refine hc.mono ?_
    rintro e w1 ⟨rfl, hw⟩
    obtain rfl := hw.symm
    clear hw hc
    cases nb with
    | true =>
      go_wp2
      go_ret
      exact ⟨by rw [HE.out, HN.out, HD.out]; rfl, rfl⟩
    | false =>
      go_wp2
      go_ret
      exact ⟨by rw [HE.out, HN.out, HD.out]; rfl, rfl⟩
  · have hd : decide ((s.size : Int) ≤ 28) = false := decide_eq_false (by omega)
    have HD : Hid (decide (s.data.toList.length ≤ 28) = false) := decide_eq_false (by rw [str_len]; exact h)
    clear h
    go_enter Tryz.func44, Tryz.ntmps44
    go_wp2_with fail
    refine hc.mono ?_
    rintro e w1 ⟨rfl, hw⟩
    obtain rfl := hw.symm
    clear hw hc
    cases nb with
    | true =>
      go_wp2
      go_ret
      exact ⟨by rw [HE.out, HN.out, HD.out]; rfl, rfl⟩
    | false =>
      go_wp2
      go_ret
      exact ⟨by rw [HE.out, HN.out, HD.out]; rfl, rfl⟩
theorem klist_has {A : AD} (ho : A.pow.off = false) (k : Key) : A.list.contains k = (fget A.fs k).isSome := by
  unfold AD.list
  rw [if_neg (by rw [ho]; simp)]
  cases hq : fget A.fs k with
  | none =>
    rw [Option.isSome_none, ← Bool.not_eq_true, List.contains_iff_mem]
    intro hm
    obtain ⟨p, hp, e⟩ := List.mem_map.1 hm
    exact fget_none_iff.1 hq p hp e
  | some F =>
    rw [Option.isSome_some, List.contains_iff_mem]
    exact List.mem_map.2 ⟨_, fget_mem hq, rfl⟩
section
variable {B : Nat} {w : World} {L : List Item} {i r : Nat} {A : AD}
set_option maxRecDepth 5000 in
set_option maxHeartbeats 1000000 in
theorem has_any (h : Lies B w L) (hi : L[i]? = some (.ref r A)) (hok : A.Ok) (ho : A.pow.off = false) (t : ByteArray) :
    Calls Tryz.prog 45 #[.pointer (some ⟨r, 0, none⟩), .string t] w fun e w' => e = .returned (.bool (fget A.fs t.data.toList).isSome) ∧ Lies B w' L ∧ Below B w w' := by
  rw [← klist_has ho]
  have hc := r_list h hi hok
  have hll := list_len hok
  obtain ⟨ks, hks⟩ : ∃ ks, A.list = ks := ⟨_, rfl⟩
  rw [hks] at hc hll ⊢
  unfold maxLen at hll
  clear hks h hi hok ho
  go_enter Tryz.func45, Tryz.ntmps45
  go_wp2_with fail
  refine hc.mono ?_
  rintro e w1 ⟨v, rfl, hr, h, hb⟩
  rw [List.length_map] at hr
  obtain ⟨ad, cap, rfl, hrow, _, _⟩ := row_at hr
  have H1 := hide h.drop
  have HB1 := hide hb
  have HR := hide hrow
  clear h hb hc hr hrow
  go_wp2
  go_loopw [6] (fun i wr => ∃ k : Nat, k ≤ ks.length ∧ i = .int .i64 (k : Int) ∧ (ks.take k).contains t.data.toList = false ∧ wr = w1) (fun i _ => ks.length - (intOf i).toNat)
  case atStart => exact ⟨0, by omega, rfl, rfl, rfl⟩
  case round =>
    obtain ⟨k, hk, rfl, hno, rfl⟩ := hrel
    have HN := hide hno
    clear hno
    by_cases hlt : k < ks.length
    · have dk : decide ((k : Int) < (ks.length : Int)) = true := decide_eq_true (by omega)
      have hk0 : (0 : Int) ≤ (k : Int) := by omega
      have hk1 : (k : Int) < (ks.length : Int) := by omega
      rcases HR.out with h | ⟨b, o, rfl, hbl, hcs⟩
      · rw [List.map_eq_nil_iff.1 h] at hlt; exact absurd hlt (by simp)
      have f0 : wr.cell? ⟨b, o + k, none⟩ = some (.string ⟨ks[k].toArray⟩) := by rw [hcs k (by simpa using hlt), List.getElem?_map, List.getElem?_eq_getElem hlt]; rfl
      obtain ⟨x, hx⟩ : ∃ x : ByteArray, x = ⟨ks[k].toArray⟩ := ⟨_, rfl⟩
      rw [← hx] at f0
      have hxl : ks[k] = x.data.toList := by rw [hx]
      clear hcs
      cases hq : decide (x = t) with
      | true =>
        have e1 : (x.toList == t.toList) = true := by rw [k_beq]; exact hq
        have HC : Hid (ks.contains t.data.toList = true) := contains_at hlt (by rw [hxl, of_decide_eq_true hq]; simp)
        clear hq hx hxl
        go_wp2
        go_ret
        exact ⟨by rw [HC.out]; rfl, H1.out, HB1.out⟩
      | false =>
        have e1 : (x.toList == t.toList) = false := by rw [k_beq]; exact hq
        have HC : Hid ((ks.take (k + 1)).contains t.data.toList = false) := take_all_ne HN.out hlt (beq_eq_false_iff_ne.2 (fun e => of_decide_eq_false hq (k_ext (by rw [← hxl]; exact e))))
        clear hq hx hxl
        go_wp2
        go_roundw
        case rel => exact ⟨k + 1, by omega, by go_num, HC.out, by first | rfl | trivial⟩
        case measure => simp [intOf]; omega
    · have hkl : k = ks.length := by omega
      subst hkl
      have dk : decide ((ks.length : Int) < (ks.length : Int)) = false := decide_eq_false (by omega)
      have HC : Hid (ks.contains t.data.toList = false) := by have := HN.out; rw [List.take_length] at this; exact this
      go_wp2
      go_ret
      exact ⟨by rw [HC.out]; rfl, H1.out, HB1.out⟩
end
end Go.Proofs.YtobfijpfdibccaaGreat
