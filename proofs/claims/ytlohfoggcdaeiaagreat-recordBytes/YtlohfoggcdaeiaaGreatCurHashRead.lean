import Derived.Test.YtlohfoggcdaeiaaGreatCurRead
import Derived.Test.YtlohfoggcdaeiaaGreatTurned
import Derived.Deep.RegionHeld3
import Derived.Laws.ResultCell
import Derived.Deep.DrawnRows
/-
  The reader: I64, Text, Raw.
-/
namespace Go.Proofs.YtlohfoggcdaeiaaGreat.Cu
set_option maxRecDepth 20000
open Go.RowKit
def num (n : Int) (st : RS) : Nat := be (takeA n st).data.toList
theorem rI64 (p : Nat) (st : RS) (w : World) (h : CR w p st) (z : Int) (hz : IntKind.i64.wrap (num 8 st : Int) = z) : Calls Tryz.prog 57 #[.pointer (some ⟨p, 0, none⟩)] w fun e w' => e = .returned (.int .i64 z) ∧ CR w' p (takeS 8 st) ∧ Mr p w w' := by
  obtain ⟨Z, hZ⟩ : ∃ Z : Int, (num 8 st : Int) = Z := ⟨_, rfl⟩
  have hc : ∀ w : World, (convert 79 2 (.int .u64 Z)).run Tryz.prog w = .ok (.int .i64 z) w := fun w => by
    have h := run_convert_int (P := Tryz.prog) (w := w) 79 2 .u64 Z (by kernel_rfl) (by kernel_rfl)
    rw [show Tryz.prog.intKind 2 = .i64 by kernel_rfl, ← hZ, hz] at h
    rw [← hZ]
    exact h
  have hg := fun (w : World) (h : CR w p st) => get_64 p st w h
  unfold num at hZ
  simp only [hZ] at hg
  have HG := hide hg
  have HC := hide hc
  clear hz hZ hc hg
  go_enter Tryz.func57, Tryz.ntmps57
  go_wp2_with fail
  refine (HG.out _ h).mono ?_
  rintro e w1 ⟨rfl, h1, hM⟩
  go_wp2_with (refine wpList_conv rfl _ _ _ rfl .u64 .i64 Z z (by rfl) (HC.out _) ?_)
  go_ret
  exact ⟨rfl, h1, hM⟩
def textMid (most : Int) (st : RS) : RS := if (num 2 st : Int) > most then stopS 3 (takeS 2 st) else takeS 2 st
def textS (most : Int) (st : RS) : RS := takeS (num 2 st) (textMid most st)
def textA (most : Int) (st : RS) : ByteArray := takeA (num 2 st) (textMid most st)
theorem takeA_size (n : Int) (st : RS) : (takeA n st).size ≤ st.1.size := by
  unfold takeA
  split
  · split
    · exact Nat.zero_le _
    · rw [ByteArray.size_extract]; omega
  · exact Nat.zero_le _
theorem takeS_size (n : Int) (st : RS) : (takeS n st).1.size ≤ st.1.size := by
  unfold takeS
  split
  · split
    · exact Nat.zero_le _
    · simp only; rw [ByteArray.size_extract]; omega
  · exact Nat.le_refl _
theorem stopS_size (c : Int) (st : RS) : (stopS c st).1.size ≤ st.1.size := by
  unfold stopS
  split
  · exact Nat.zero_le _
  · exact Nat.le_refl _
theorem textMid_size (most : Int) (st : RS) : (textMid most st).1.size ≤ st.1.size := by
  unfold textMid
  split
  · exact Nat.le_trans (stopS_size _ _) (takeS_size _ _)
  · exact takeS_size _ _
theorem num2_lt (st : RS) : num 2 st < 65536 := by
  have h := be_lt (takeA 2 st).data.toList
  have h2 := takeA_le 2 st
  rw [str_len] at h
  have : 256 ^ (takeA 2 st).size ≤ 256 ^ 2 := Nat.pow_le_pow_right (by decide) h2
  unfold num
  omega
set_option maxHeartbeats 1000000 in
theorem rText (most : Int) (p : Nat) (st : RS) (w : World) (h : CR w p st) (hs : st.1.size ≤ 281474976710656) : Calls Tryz.prog 105 #[.pointer (some ⟨p, 0, none⟩), .int .i64 most] w fun e w' => e = .returned (.string (textA most st)) ∧ CR w' p (textS most st) ∧ Mr p w w' := by
  have hnl := num2_lt st
  obtain ⟨Z, hZ⟩ : ∃ Z : Int, (num 2 st : Int) = Z := ⟨_, rfl⟩
  have hc : ∀ w : World, (convert 115 3 (.int .u16 Z)).run Tryz.prog w = .ok (.int .i64 Z) w := fun w => by
    have h := run_convert_int (P := Tryz.prog) (w := w) 115 3 .u16 Z (by kernel_rfl) (by kernel_rfl)
    have e2 : IntKind.i64.wrap Z = Z := by rw [IntKind.wrap_i64]; omega
    rw [show Tryz.prog.intKind 3 = .i64 by kernel_rfl, e2] at h
    exact h
  have hg := fun (w : World) (h : CR w p st) => rU16 p st w h
  have hZ2 : (be (takeA 2 st).data.toList : Int) = Z := hZ
  simp only [hZ2] at hg
  have HG := hide hg
  have HC := hide hc
  have hz0 : 0 ≤ Z := by omega
  have HS : Hid ((textA most st).size ≤ 281474976710656) := by
    show _ ≤ _
    unfold textA
    have := takeA_size (num 2 st) (textMid most st)
    have := textMid_size most st
    omega
  unfold textA textS textMid at *
  rw [hZ] at *
  clear hc hg hs hZ2 hZ hnl
  by_cases hgt : Z > most
  · have hd : decide (Z > most) = true := decide_eq_true hgt
    rw [if_pos hgt] at HS ⊢
    go_enter Tryz.func105, Tryz.ntmps105
    go_wp2_with fail
    refine (HG.out _ h).mono ?_
    rintro e w1 ⟨rfl, h1, hM⟩
    go_wp2_with (first | (refine wpList_conv rfl _ _ _ rfl .u16 .i64 Z Z (by rfl) (HC.out _) ?_) | fail)
    refine (rStop 3 p _ _ h1).mono ?_
    rintro e w2 ⟨rfl, h2, hM2⟩
    go_wp2_with fail
    refine (rTake Z p _ _ h2 (.inr hz0)).mono ?_
    rintro e w3 ⟨rfl, h3, hM3⟩
    go_wp2_with fail
    refine (clone_any _ _ HS.out).mono ?_
    rintro e w4 ⟨rfl, h4⟩
    go_wp2
    go_ret
    exact ⟨rfl, h3.below h4, ((hM.trans hM2).trans hM3).trans (Mr.of h4)⟩
  · have hd : decide (Z > most) = false := decide_eq_false hgt
    rw [if_neg hgt] at HS ⊢
    go_enter Tryz.func105, Tryz.ntmps105
    go_wp2_with fail
    refine (HG.out _ h).mono ?_
    rintro e w1 ⟨rfl, h1, hM⟩
    go_wp2_with (first | (refine wpList_conv rfl _ _ _ rfl .u16 .i64 Z Z (by rfl) (HC.out _) ?_) | fail)
    refine (rTake Z p _ _ h1 (.inr hz0)).mono ?_
    rintro e w3 ⟨rfl, h3, hM3⟩
    go_wp2_with fail
    refine (clone_any _ _ HS.out).mono ?_
    rintro e w4 ⟨rfl, h4⟩
    go_wp2
    go_ret
    exact ⟨rfl, h3.below h4, (hM.trans hM3).trans (Mr.of h4)⟩
def rawMid (n : Int) (st : RS) : RS := if n < 0 then stopS 1 st else st
def rawS (n : Int) (st : RS) : RS := takeS n (rawMid n st)
def rawA (n : Int) (st : RS) : ByteArray := takeA n (rawMid n st)
set_option maxHeartbeats 1000000 in
theorem rRaw (n : Int) (p : Nat) (st : RS) (w : World) (h : CR w p st) (hs : st.1.size ≤ 281474976710656) : Calls Tryz.prog 84 #[.pointer (some ⟨p, 0, none⟩), .int .i64 n] w fun e w' => e = .returned (.string (rawA n st)) ∧ CR w' p (rawS n st) ∧ Mr p w w' := by
  have HS : Hid ((rawA n st).size ≤ 281474976710656) := by
    show _ ≤ _
    unfold rawA
    have h1 := takeA_size n (rawMid n st)
    have h2 : (rawMid n st).1.size ≤ st.1.size := by
      unfold rawMid
      split
      · exact stopS_size _ _
      · exact Nat.le_refl _
    omega
  unfold rawA rawS rawMid at *
  clear hs
  by_cases hlt : n < 0
  · have hd : decide (n < 0) = true := decide_eq_true hlt
    rw [if_pos hlt] at HS ⊢
    have hne : (stopS 1 st).2 ≠ 0 := by
      unfold stopS
      split
      · decide
      · assumption
    go_enter Tryz.func84, Tryz.ntmps84
    go_wp2_with fail
    refine (rStop 1 p _ _ h).mono ?_
    rintro e w2 ⟨rfl, h2, hM2⟩
    go_wp2_with fail
    refine (rTake n p _ _ h2 (.inl hne)).mono ?_
    rintro e w3 ⟨rfl, h3, hM3⟩
    go_wp2_with fail
    refine (clone_any _ _ HS.out).mono ?_
    rintro e w4 ⟨rfl, h4⟩
    go_wp2
    go_ret
    exact ⟨rfl, h3.below h4, (hM2.trans hM3).trans (Mr.of h4)⟩
  · have hd : decide (n < 0) = false := decide_eq_false hlt
    rw [if_neg hlt] at HS ⊢
    go_enter Tryz.func84, Tryz.ntmps84
    go_wp2_with fail
    refine (rTake n p _ _ h (.inr (by omega))).mono ?_
    rintro e w3 ⟨rfl, h3, hM3⟩
    go_wp2_with fail
    refine (clone_any _ _ HS.out).mono ?_
    rintro e w4 ⟨rfl, h4⟩
    go_wp2
    go_ret
    exact ⟨rfl, h3.below h4, hM3.trans (Mr.of h4)⟩
end Go.Proofs.YtlohfoggcdaeiaaGreat.Cu
/-
  What a reader answers, by lists of bytes.
-/
namespace Go.Proofs.YtlohfoggcdaeiaaGreat.Cu
set_option maxRecDepth 20000
open Go.RowKit
def ofL (l : List UInt8) : ByteArray := ⟨l.toArray⟩
theorem ofL_size (l : List UInt8) : (ofL l).size = l.length := by simp [ofL, ByteArray.size]
theorem ofL_data (l : List UInt8) : (ofL l).data.toList = l := by simp [ofL]
theorem ofL_of (s : ByteArray) : ofL s.data.toList = s := by
  apply ByteArray.ext; simp [ofL]
theorem ofL_nil : ofL [] = nil8 := rfl
theorem ofL_append (a b : List UInt8) : ofL a ++ ofL b = ofL (a ++ b) := by
  apply ByteArray.ext; simp [ofL, ByteArray.data_append]
theorem ofL_extract (l : List UInt8) (i j : Nat) : (ofL l).extract i j = ofL ((l.take j).drop i) := by
  apply ByteArray.ext
  rw [ByteArray.data_extract]
  apply Array.ext'
  simp [ofL, List.extract_eq_take_drop, List.drop_take]
theorem takeA_head (a b : List UInt8) (n : Int) (hn : n = (a.length : Int)) : takeA n (ofL (a ++ b), 0) = ofL a := by
  subst hn
  unfold takeA
  rw [if_pos rfl, if_neg (by rw [ofL_size, List.length_append]; omega), Int.toNat_natCast, ofL_extract, List.take_left, List.drop_zero]
theorem takeS_head (a b : List UInt8) (n : Int) (hn : n = (a.length : Int)) : takeS n (ofL (a ++ b), 0) = (ofL b, 0) := by
  subst hn
  unfold takeS
  rw [if_pos rfl, if_neg (by rw [ofL_size, List.length_append]; omega), Int.toNat_natCast]
  simp only
  rw [ofL_extract, ofL_size, List.take_length, List.drop_left]
theorem takeA_short (l : List UInt8) (n : Int) (hn : (l.length : Int) < n) : takeA n (ofL l, 0) = nil8 := by
  unfold takeA; rw [if_pos rfl, if_pos (by rw [ofL_size]; exact hn)]
theorem takeS_short (l : List UInt8) (n : Int) (hn : (l.length : Int) < n) : takeS n (ofL l, 0) = (nil8, 2) := by
  unfold takeS; rw [if_pos rfl, if_pos (by rw [ofL_size]; exact hn)]
theorem takeA_broken (s : ByteArray) (f n : Int) (hf : f ≠ 0) : takeA n (s, f) = nil8 := by unfold takeA; rw [if_neg hf]
theorem takeS_broken (s : ByteArray) (f n : Int) (hf : f ≠ 0) : takeS n (s, f) = (s, f) := by unfold takeS; rw [if_neg hf]
theorem stopS_broken (s : ByteArray) (f c : Int) (hf : f ≠ 0) : stopS c (s, f) = (s, f) := by unfold stopS; rw [if_neg hf]
theorem be_nil8 : be nil8.data.toList = 0 := rfl
theorem num_head (a b : List UInt8) (n : Int) (hn : n = (a.length : Int)) : num n (ofL (a ++ b), 0) = be a := by
  unfold num; rw [takeA_head a b n hn, ofL_data]
theorem num_nb (x : Nat) (n : Nat) (b : List UInt8) : num n (ofL (nb x n ++ b), 0) = x % 256 ^ n := by
  rw [num_head _ _ _ (by rw [nb_length]), be_nb]
theorem num2_nb (x : Nat) (hx : x ≤ 65535) (b : List UInt8) : num 2 (ofL (nb x 2 ++ b), 0) = x := by
  exact (num_nb x 2 b).trans (Nat.mod_eq_of_lt (by omega))
theorem text_ok (n : Nat) (t r : List UInt8) (most : Int) (ht : t.length = n) (hn : n ≤ 65535) (hm : (n : Int) ≤ most) : textA most (ofL (nb n 2 ++ (t ++ r)), 0) = ofL t ∧ textS most (ofL (nb n 2 ++ (t ++ r)), 0) = (ofL r, 0) := by
  unfold textA textS textMid
  rw [num2_nb n hn, if_neg (by omega), takeS_head (nb n 2) _ 2 (by rw [nb_length]; rfl), takeA_head t r _ (by rw [ht]), takeS_head t r _ (by rw [ht])]
  exact ⟨rfl, rfl⟩
theorem text_long (n : Nat) (r : List UInt8) (most : Int) (hn : n ≤ 65535) (hm : most < (n : Int)) : textA most (ofL (nb n 2 ++ r), 0) = nil8 ∧ textS most (ofL (nb n 2 ++ r), 0) = (nil8, 3) := by
  unfold textA textS textMid
  rw [num2_nb n hn, if_pos (by omega), takeS_head (nb n 2) _ 2 (by rw [nb_length]; rfl)]
  have e : stopS 3 (ofL r, 0) = (nil8, 3) := rfl
  rw [e, takeA_broken _ _ _ (by decide), takeS_broken _ _ _ (by decide)]
  exact ⟨rfl, rfl⟩
theorem text_cut (n : Nat) (r : List UInt8) (most : Int) (hn : n ≤ 65535) (hm : (n : Int) ≤ most) (hr : r.length < n) : textA most (ofL (nb n 2 ++ r), 0) = nil8 ∧ textS most (ofL (nb n 2 ++ r), 0) = (nil8, 2) := by
  unfold textA textS textMid
  rw [num2_nb n hn, if_neg (by omega), takeS_head (nb n 2) _ 2 (by rw [nb_length]; rfl), takeA_short r _ (by omega), takeS_short r _ (by omega)]
  exact ⟨rfl, rfl⟩
theorem text_broken (s : ByteArray) (f most : Int) (hf : f ≠ 0) : textA most (s, f) = nil8 ∧ textS most (s, f) = (s, f) := by
  unfold textA textS textMid
  rw [takeS_broken _ _ _ hf, stopS_broken _ _ _ hf]
  have e : (if (num 2 (s, f) : Int) > most then (s, f) else (s, f)) = (s, f) := by split <;> rfl
  rw [e, takeA_broken _ _ _ hf, takeS_broken _ _ _ hf]
  exact ⟨rfl, rfl⟩
theorem text_less (l : List UInt8) (most : Int) (hl : l.length < 2) : textA most (ofL l, 0) = nil8 ∧ textS most (ofL l, 0) = (nil8, 2) := by
  unfold textA textS textMid
  rw [takeS_short l 2 (by omega), stopS_broken _ _ _ (by decide)]
  have e : (if (num 2 (ofL l, 0) : Int) > most then (nil8, (2 : Int)) else (nil8, 2)) = (nil8, 2) := by split <;> rfl
  rw [e, takeA_broken _ _ _ (by decide), takeS_broken _ _ _ (by decide)]
  exact ⟨rfl, rfl⟩
theorem raw_ok (a b : List UInt8) (n : Int) (hn : n = (a.length : Int)) : rawA n (ofL (a ++ b), 0) = ofL a ∧ rawS n (ofL (a ++ b), 0) = (ofL b, 0) := by
  unfold rawA rawS rawMid
  rw [if_neg (by omega), takeA_head a b n hn, takeS_head a b n hn]
  exact ⟨rfl, rfl⟩
theorem raw_short (l : List UInt8) (n : Int) (hn : (l.length : Int) < n) : rawA n (ofL l, 0) = nil8 ∧ rawS n (ofL l, 0) = (nil8, 2) := by
  unfold rawA rawS rawMid
  rw [if_neg (by omega), takeA_short l n hn, takeS_short l n hn]
  exact ⟨rfl, rfl⟩
theorem raw_neg (s : ByteArray) (n : Int) (hn : n < 0) : rawA n (s, 0) = nil8 ∧ rawS n (s, 0) = (nil8, 1) := by
  unfold rawA rawS rawMid
  have e : stopS 1 (s, 0) = (nil8, 1) := rfl
  rw [if_pos hn, e, takeA_broken _ _ _ (by decide), takeS_broken _ _ _ (by decide)]
  exact ⟨rfl, rfl⟩
theorem raw_broken (s : ByteArray) (f n : Int) (hf : f ≠ 0) : rawA n (s, f) = nil8 ∧ rawS n (s, f) = (s, f) := by
  unfold rawA rawS rawMid
  rw [stopS_broken _ _ _ hf]
  have e : (if n < 0 then (s, f) else (s, f)) = (s, f) := by split <;> rfl
  rw [e, takeA_broken _ _ _ hf, takeS_broken _ _ _ hf]
  exact ⟨rfl, rfl⟩
theorem done_empty (f : Int) : doneS (nil8, f) = f := rfl
theorem done_ofL (l : List UInt8) (f : Int) : doneS (ofL l, f) = if l = [] then f else 4 := by
  unfold doneS
  simp only [ofL_size]
  cases l <;> simp
end Go.Proofs.YtlohfoggcdaeiaaGreat.Cu
/-
  Hashes: what the writer's and the reader's Hash ask of the type.
-/
namespace Go.Proofs.YtlohfoggcdaeiaaGreat.Cu
set_option maxRecDepth 20000
open Go.RowKit S
theorem takeH {P : Program} {ops : Array Oper} {Q : Exit → Act → World → Prop} {md : Region.Mode} {S : World → Prop} (i : Nat) (d : Option Tmp) (v : Value) {oi : Oper} {fuel : Nat} {listed : Array Bool} {a : Act} {w : World} (hi : ops[i]? = some oi) (hd : oi.dst = d)
    (hs : Region.noSelect ops = true) (hf : Region.free md ops listed i = true) (hr : (Region.ready md ops listed).contains i = true)
    (hQ : ∀ c a w, Q (.panic c) (a.put oi.dst v) w → Q (.panic c) a w) (hw : Region.wanted oi (yielded ops a.tmps) = true) (hy : ∀ w, S w → (execOp a.eval oi).run P w = .ok (.value v) w) (hS : S w)
    (h : wpAnyH P md ops Q S fuel (listed.setIfInBounds i true) (a.put d v) w) : wpAnyH P md ops Q S (fuel + 1) listed a w :=
  wpAnyH_take hi hs hf hr hQ (.inl ⟨hw, hy⟩) hS (by rw [hd]; exact h)
theorem info54 : (Tryz.prog.info? 25).map (·.size) = some 32 := by kernel_rfl
theorem len54 : Tryz.prog.arrayLen 25 = 32 := by kernel_rfl
theorem el54 : Tryz.prog.elem 25 = 5 := by kernel_rfl
theorem und54 : Tryz.prog.underlying 25 = some (.array (Tryz.prog.arrayLen 25) (Tryz.prog.elem 25)) := by kernel_rfl
set_option maxRecDepth 100000 in
theorem sl54 (w : World) (g o : Nat) : (Instr.sliceAt 25 (.pointer (some ⟨g, o, none⟩)) none none none).run Tryz.prog w = .ok (.slice (some ⟨g, o, none⟩) 32 32) w := by
  rw [run_sliceAt_array_all w 25 _ und54, el54, size5, len54]
  simp only [Result.andThen_ok, slicedAt, Nat.mul_one]
  congr 3
end Go.Proofs.YtlohfoggcdaeiaaGreat.Cu
/-
  Hash of the writer and of the reader.
-/
namespace Go.Proofs.YtlohfoggcdaeiaaGreat.Cu
set_option maxRecDepth 20000
open Go.RowKit
def hl (h : Nat → UInt8) : List UInt8 := (List.range 32).map h
theorem hl_length (h : Nat → UInt8) : (hl h).length = 32 := by simp [hl]
theorem hl_bv (h : Nat → UInt8) : (hl h).map byteV = (tabv (bv h) 32).toList := by
  unfold hl tabv; rw [List.map_map]; rfl
theorem wp_append_src {o : Oper} {a : Act} {w : World} {K : Act → World → Prop} {Q : Exit → Act → World → Prop} (sl x : Operand) (tx : TypeId)
    (ho : o.op = .call { callee := .builtin .append, args := #[sl, x], argTypes := #[77, tx] }) (B : Nat) (v : Value) (l : List UInt8) (hs : a.eval sl = v) (hown : Bytes w B v l) (X : Value) (news : List UInt8) (hx : a.eval x = X) (hsrc : Src Tryz.prog 1 tx X news.length (news.map byteV) w)
    (hlen : l.length + news.length ≤ 140737488355328) (hB : B ≤ w.heap.size)
    (h : ∀ ad n c w', Bytes w' B (.slice ad n c) (l ++ news) → Mv w v w' (.slice ad n c) → K (a.put o.dst (.slice ad n c)) w') : o.wp Tryz.prog a w K Q := by
  obtain ⟨v', w', hr, h1, h2⟩ := run_append_bytes w B o.type tx v l news hown X hsrc hlen hB
  obtain ⟨ad, n, c, rfl⟩ := h1.shape
  unfold Oper.wp execOp
  simp only [ho, resolve, invoke, builtin, Sem.run_bind, Sem.run_pure, Result.andThen_ok, List.map_toArray, List.map_cons, List.map_nil, hs, hx, hr]
  exact h _ _ _ _ h1 h2
theorem src_hash {w : World} {g : Nat} {h : Nat → UInt8} (hH : Has w g 25 (bv h) 32) : Src Tryz.prog 1 77 (.slice (some ⟨g, 0, none⟩) 32 32) (hl h).length ((hl h).map byteV) w := by
  rw [hl_length, hl_bv]
  refine Src.ofSlice w Tryz.underlying77 ⟨g, 0, none⟩ 32 32 _ (by simp [tabv]) (fun j u hu => World.news_of_block hH j u hu) (fun u hu => ?_)
  simp only [tabv, List.mem_map, List.mem_range] at hu
  obtain ⟨i, _, rfl⟩ := hu
  rfl
attribute [local go_sem ↓] Go.wp_at_zero Go.wp_at_succ
set_option maxRecDepth 100000 in
set_option maxHeartbeats 2000000 in
theorem wHash (h : Nat → UInt8) (p : Nat) (v : Value) (s : Option (List UInt8)) (w : World) (hC : CW w p v s) (hlen : ∀ l, s = some l → l.length + 32 ≤ 140737488355328) :
    Calls Tryz.prog 141 #[.pointer (some ⟨p, 0, none⟩), .agg (tabv (bv h) 32)] w fun e w' => e = .returned (.tuple #[]) ∧ ∃ v', CW w' p v' (s.map (· ++ hl h)) ∧ Mw p w v w' v' := by
  have HL := hide hlen
  clear hlen
  have g0 := Has.new w 25 (bv h) 32 _ rfl
  have gb := (Below.refl w.heap.size w).alloc (Nat.le_refl _) (.cells (tabv (bv h) 32) 25)
  have hC1 := hC.below gb
  cases s with
  | none =>
    have c1 := hC1.1.c1
    have HG := hide gb
    clear gb g0
    go_enter Tryz.func141, Tryz.ntmps141
    go_wp2
    go_end0
    exact ⟨rfl, v, hC1, Mw.of_below HG.out⟩
  | some l =>
    have c1 := hC1.1.c1
    have c0 := hC1.1.c0
    have hplt := hC1.1.lt
    obtain ⟨g, hg⟩ : ∃ g, w.heap.size = g := ⟨_, rfl⟩
    have HG := hide gb
    have HH := hide g0
    have HP : Hid (p + 1 ≤ (w.alloc (.cells (tabv (bv h) 32) 25)).heap.size) := hplt
    have HLL : Hid (l.length + (hl h).length ≤ 140737488355328) := by
      show _ ≤ _
      rw [hl_length]; exact HL.out l rfl
    clear gb g0 hplt
    go_enter Tryz.func141, Tryz.ntmps141
    go_wp2
    generalize hw1 : w.alloc (.cells (tabv (bv h) 32) 25) = w1 at hC1 c0 c1 HG HH HP ⊢
    rw [hg] at HH
    clear hw1
    refine wp_region_noPanic ?_
    refine wp_region_held_drew (S := fun _ => True) (by kernel_rfl) trivial (fun hHeld => ?_)
    refine takeH 0 (some 9) (.pointer (some ⟨p, 0, none⟩)) rfl rfl (by kernel_rfl) (by kernel_rfl) (by kernel_rfl) (fun _ _ _ h => h) (by rfl) (fun w hw => by first | rfl | (go_simp; done) | (go_simp; rfl)) hHeld ?_
    simp only [Act.put, List.setIfInBounds_toArray, List.set_cons_zero, List.set_cons_succ]
    refine takeH 1 (some 10) (.pointer (some ⟨p, 0, none⟩)) rfl rfl (by kernel_rfl) (by kernel_rfl) (by kernel_rfl) (fun _ _ _ h => h) (by rfl) (fun w hw => by first | rfl | (go_simp; done) | (go_simp; rfl)) hHeld ?_
    simp only [Act.put, List.setIfInBounds_toArray, List.set_cons_zero, List.set_cons_succ]
    refine takeH 2 (some 11) (.pointer (some ⟨p, 0, none⟩)) rfl rfl (by kernel_rfl) (by kernel_rfl) (by kernel_rfl) (fun _ _ _ h => h) (by rfl) (fun w hw => by first | rfl | (go_simp; done) | (go_simp; rfl)) hHeld ?_
    simp only [Act.put, List.setIfInBounds_toArray, List.set_cons_zero, List.set_cons_succ]
    refine takeH 3 (some 12) (.pointer (some ⟨p, 0, none⟩)) rfl rfl (by kernel_rfl) (by kernel_rfl) (by kernel_rfl) (fun _ _ _ h => h) (by rfl) (fun w hw => by first | rfl | (go_simp; done) | (go_simp; rfl)) hHeld ?_
    simp only [Act.put, List.setIfInBounds_toArray, List.set_cons_zero, List.set_cons_succ]
    refine takeH 5 (some 14) (.slice (some ⟨g, 0, none⟩) 32 32) rfl rfl (by kernel_rfl) (by kernel_rfl) (by kernel_rfl) (fun _ _ _ h => h) (by rfl) (fun w hw => by first | rfl | (go_simp; done) | (go_simp; rfl)) hHeld ?_
    simp only [Act.put, List.setIfInBounds_toArray, List.set_cons_zero, List.set_cons_succ]
    refine wpAnyH_ready (rs := [4]) (by kernel_rfl) (by simp) (AllReadyH.cons rfl (fun K hK => ?_) AllReadyH.nil)
    rw [if_pos (by rfl)]
    go_simp
    refine hK.out _ _ trivial (fun hHeld => ?_)
    clear hK K
    refine wpAnyH_ready (rs := [6]) (by kernel_rfl) (by simp) (AllReadyH.cons rfl (fun K hK => ?_) AllReadyH.nil)
    rw [if_pos (by rfl)]
    refine wp_append_src _ _ 77 rfl (p + 1) v l (by rfl) (w := w1.drew) (hC1.2 : Bytes w1.drew (p + 1) v l) (.slice (some ⟨g, 0, none⟩) 32 32) (hl h) (by rfl) (src_hash (w := w1.drew) HH.out) HLL.out HP.out ?_
    intro ad n1 c1' w2 hB2 hM2
    simp only [Act.put, List.setIfInBounds_toArray]
    refine hK.out _ _ trivial (fun hHeld => ?_)
    clear hK K
    obtain ⟨t1, t2, t3, t4⟩ := stored (w := w1.drew) hC1.1 hC1.2 hM2 hB2
    have d0 := t1.c0
    have df := t1.fz 0
    refine takeH 7 (some 16) (.pointer (some ⟨p, 0, none⟩)) rfl rfl (by kernel_rfl) (by kernel_rfl) (by kernel_rfl) (fun _ _ _ h => h) (by rfl) (fun w hw => by first | rfl | (go_simp; done) | (go_simp; rfl)) hHeld ?_
    simp only [Act.put]
    refine takeH 8 (some 17) (.pointer (some ⟨p, 0, none⟩)) rfl rfl (by kernel_rfl) (by kernel_rfl) (by kernel_rfl) (fun _ _ _ h => h) (by rfl) (fun w hw => by first | rfl | (go_simp; done) | (go_simp; rfl)) hHeld ?_
    simp only [Act.put]
    refine wpAnyH_ready (rs := [9]) (by kernel_rfl) (by simp) (AllReadyH.cons rfl (fun K hK => ?_) AllReadyH.nil)
    rw [if_pos (by rfl)]
    go_simp
    refine hK.out _ _ trivial (fun hHeld => ?_)
    clear hK K
    refine ⟨by kernel_rfl, ?_⟩
    refine NoPanic.normal ?_
    go_wp2
    go_end0
    refine ⟨rfl, _, ⟨t2, t3⟩, (Mw.of_below HG.out).trans (Mw.trans (Mw.of_below (Below.refl w1.heap.size w1).drew) t4)⟩
end Go.Proofs.YtlohfoggcdaeiaaGreat.Cu
/-
  Hash of the reader.
-/
namespace Go.Proofs.YtlohfoggcdaeiaaGreat.Cu
set_option maxRecDepth 20000
open Go.RowKit
/-- The hash that bytes are: zeros where there are none. -/
def hOf (b : ByteArray) : Nat → UInt8 := fun i => byteAt b.data.toList i
theorem copied (A : ByteArray) (hA : A.size ≤ 32) : ((tabv (fun _ => .int .u8 0) 32).toList.take 0 ++ A.data.toList.map byteV ++ (tabv (fun _ => .int .u8 0) 32).toList.drop (0 + (A.data.toList.map byteV).length)).toArray = tabv (bv (hOf A)) 32 := by
  refine tabv_ext _ _ _ (by simp [tabv]; omega) fun i hi => ?_
  rw [List.getElem?_toArray, List.take_zero, List.nil_append, Nat.zero_add, List.length_map, str_len]
  unfold bv hOf byteAt
  by_cases h : i < A.size
  · have hl : i < A.data.toList.length := by rw [str_len]; exact h
    rw [List.getElem?_append_left (by rw [List.length_map]; exact hl), List.getElem?_map, List.getElem?_eq_getElem hl, List.getD_eq_getElem?_getD, List.getElem?_eq_getElem hl]
    rfl
  · rw [List.getElem?_append_right (by rw [List.length_map, str_len]; omega), List.length_map, str_len, List.getElem?_drop, show A.size + (i - A.size) = i by omega, Array.getElem?_toList, tabv_get _ _ _ hi, List.getD_eq_getElem?_getD, List.getElem?_eq_none (by rw [str_len]; omega)]
    rfl
theorem wp_copy_text {o : Oper} {a : Act} {w : World} {K : Act → World → Prop} {Q : Exit → Act → World → Prop} (d s : Operand) (ho : o.op = .call { callee := .builtin .copy, args := #[d, s], argTypes := #[77, 9] }) (g dLen dCap : Nat) (r : ByteArray) (hd : a.eval d = .slice (some ⟨g, 0, none⟩) dLen dCap) (hs : a.eval s = .string r)
    (t : TypeId) (cur : Array Value) (hle : r.size ≤ dLen) (hg : w.heap[g]? = some (.cells cur t (0, 0))) (hfit : r.size ≤ cur.size) (cs : Array Value) (hcs : (cur.toList.take 0 ++ r.data.toList.map byteV ++ cur.toList.drop (0 + (r.data.toList.map byteV).length)).toArray = cs)
    (h : K (a.put o.dst (.int .i64 (r.size : Int))) (w.setRow g cs)) : o.wp Tryz.prog a w K Q := by
  have hr := run_copy_text w o.type g 0 dLen dCap r t cur hle hg (by omega)
  rw [hcs] at hr
  unfold Oper.wp execOp
  simp only [ho, resolve, invoke, builtin, Sem.run_bind, Sem.run_pure, Result.andThen_ok, List.map_toArray, List.map_cons, List.map_nil, hd, hs, hr]
  exact h
theorem Mr.low {p : Nat} {w w1 w2 : World} (h : Mr p w w1) (hb : Below w.heap.size w1 w2) : Mr p w w2 :=
  ⟨hb.os.trans (Mw.os h), hb.tape.trans (Mw.tape h), hb.output.trans (Mw.output h), Nat.le_trans (Mr.size h) hb.size, fun k hk hp _ => (hb.block k hk).trans (Mr.block h k hk hp), fun _ h => by simp [Value.ownBlock] at h⟩
attribute [local go_sem ↓] Go.wp_at_zero Go.wp_at_succ
set_option maxRecDepth 100000 in
set_option maxHeartbeats 2000000 in
theorem rHash (p : Nat) (st : RS) (w : World) (h : CR w p st) : Calls Tryz.prog 60 #[.pointer (some ⟨p, 0, none⟩)] w fun e w' => e = .returned (.agg (tabv (bv (hOf (takeA 32 st))) 32)) ∧ CR w' p (takeS 32 st) ∧ Mr p w w' := by
  obtain ⟨A, hA⟩ : ∃ A, takeA 32 st = A := ⟨_, rfl⟩
  have hAs : A.size ≤ 32 := by rw [← hA]; exact takeA_le 32 st
  have hplt := h.lt
  go_enter Tryz.func60, Tryz.ntmps60
  go_wp2
  generalize hW : World.alloc (World.alloc w _) _ = w2
  have kb : Below w.heap.size w w2 := by rw [← hW]; exact ((Below.refl _ _).alloc (Nat.le_refl _) _).alloc (by simp) _
  have k0 : Has w2 w.heap.size 25 (fun _ => .int .u8 0) 32 := by rw [← hW]; exact (Has.new w 25 (fun _ => .int .u8 0) 32 _ rfl).old _
  have k1 : Has w2 (w.heap.size + 1) 25 (fun _ => .int .u8 0) 32 := by
    rw [← hW]
    have := Has.new (w.alloc (.cells (tabv (fun _ => .int .u8 0) 32) 25)) 25 (fun _ => .int .u8 0) 32 _ rfl
    simp only [World.size_alloc] at this
    exact this
  have h2 := h.below kb
  have hsz : w2.heap.size = w.heap.size + 2 := by rw [← hW]; simp
  have HS := hide hsz
  clear hW hsz
  refine wp_region_noPanic ?_
  refine wp_region_held_drew (S := fun _ => True) (by kernel_rfl) trivial (fun hHeld => ?_)
  refine takeH 0 (some 4) (.slice (some ⟨w.heap.size + 1, 0, none⟩) 32 32) rfl rfl (by kernel_rfl) (by kernel_rfl) (by kernel_rfl) (fun _ _ _ h => h) (by rfl) (fun w hw => by first | rfl | (go_simp; done) | (go_simp; rfl)) hHeld ?_
  simp only [Act.put, List.setIfInBounds_toArray, List.set_cons_zero, List.set_cons_succ]
  refine takeH 1 (some 5) (.pointer (some ⟨p, 0, none⟩)) rfl rfl (by kernel_rfl) (by kernel_rfl) (by kernel_rfl) (fun _ _ _ h => h) (by rfl) (fun w hw => by first | rfl | (go_simp; done) | (go_simp; rfl)) hHeld ?_
  simp only [Act.put, List.setIfInBounds_toArray, List.set_cons_zero, List.set_cons_succ]
  refine wpAnyH_ready (rs := [2]) (by kernel_rfl) (by simp) (AllReadyH.cons rfl (fun K hK => ?_) AllReadyH.nil)
  rw [if_pos (by rfl)]
  go_simp
  refine (rTake 32 p st w2.drew (h2 : CR w2.drew p st) (.inr (by decide))).mono ?_
  rintro e w3 ⟨rfl, h3, hM3⟩
  rw [hA]
  have j0 : Has w3 w.heap.size 25 (fun _ => .int .u8 0) 32 := by
    have := hM3.block w.heap.size (by show _ < w2.heap.size; have := HS.out; omega) (by omega)
    unfold Has; rw [this]; exact k0
  have j1 : Has w3 (w.heap.size + 1) 25 (fun _ => .int .u8 0) 32 := by
    have := hM3.block (w.heap.size + 1) (by show _ < w2.heap.size; have := HS.out; omega) (by omega)
    unfold Has; rw [this]; exact k1
  try go_wp2_with fail
  refine hK.out _ _ trivial (fun hHeld => ?_)
  clear hK K k0 k1
  refine wpAnyH_ready (rs := [3]) (by kernel_rfl) (by simp) (AllReadyH.cons rfl (fun K hK => ?_) AllReadyH.nil)
  rw [if_pos (by rfl)]
  refine wp_copy_text _ _ rfl (w.heap.size + 1) 32 32 A (by rfl) (by rfl) 25 _ hAs j1 (by rw [tabv_size]; exact hAs) _ (copied A hAs) ?_
  refine hK.out _ _ trivial (fun hHeld => ?_)
  clear hK K
  have i1 : Has (w3.setRow (w.heap.size + 1) (tabv (bv (hOf A)) 32)) (w.heap.size + 1) 25 (bv (hOf A)) 32 := j1.row _ _ rfl
  have i0 := j0.row_other (w.heap.size + 1) (tabv (bv (hOf A)) 32) (by omega)
  have b4 : Below w.heap.size w3 (w3.setRow (w.heap.size + 1) (tabv (bv (hOf A)) 32)) := below_setRow (Below.refl _ _) (by omega) _
  generalize hW4 : w3.setRow (w.heap.size + 1) (tabv (bv (hOf A)) 32) = w4 at i0 i1 b4 ⊢
  refine ⟨by kernel_rfl, ?_⟩
  refine NoPanic.normal ?_
  have I0 := hide i0
  have I1 := hide i1
  clear i0 i1
  go_wp2_with (first | (refine wpList_load_part rfl 25 _ rfl (w.heap.size + 1) 0 rfl 25 _ 32 32 _ I1.out (by omega) Tryz.underlying25 rfl info54 (bv (hOf A)) (fun i _ => by rw [Nat.zero_add]) ?_) | (refine wpList_store_part rfl 25 _ _ rfl rfl w.heap.size 0 (bv (hOf A)) 32 rfl rfl 25 _ 32 I0.out (by omega) info54 (fun _ _ => rfl) (bv (hOf A)) (fun i hi => by unfold splice; rw [if_pos (by omega), Nat.sub_zero]) ?_))
  refine bodyPost_ret (results_cell_row rfl _ _ w.heap.size 25 _ (0, 0) _ rfl (I0.out.row _ _ rfl) Tryz.underlying25 rfl (by rw [tabv_size]; exact info54)) rfl ⟨by rw [hA], ?_, ?_⟩
  · exact h3.same (((below_setRow b4 (Nat.le_refl _) _).block p hplt))
  · exact Mr.low (Mr.trans (Mr.trans (Mr.of kb) (Mr.of (Below.refl w2.heap.size w2).drew)) hM3) (below_setRow b4 (Nat.le_refl _) _)
end Go.Proofs.YtlohfoggcdaeiaaGreat.Cu
