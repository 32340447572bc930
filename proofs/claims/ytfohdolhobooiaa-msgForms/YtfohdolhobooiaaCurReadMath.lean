/-
  What a reader answers, by lists of bytes.
-/
import Derived.Test.YtfohdolhobooiaaCurReader2
namespace Go.Proofs.Ytfohdolhobooiaa.Cu
open Go.RowKit
def ofL (l : List UInt8) : ByteArray := ⟨l.toArray⟩
theorem ofL_size (l : List UInt8) : (ofL l).size = l.length := by simp [ofL, ByteArray.size]
theorem ofL_data (l : List UInt8) : (ofL l).data.toList = l := by simp [ofL]
theorem ofL_of (s : ByteArray) : ofL s.data.toList = s := by
  apply ByteArray.ext; simp [ofL]
theorem ofL_nil : ofL [] = nil8 := rfl
theorem ofL_append (a b : List UInt8) : ofL a ++ ofL b = ofL (a ++ b) := by
  apply ByteArray.ext; simp [ofL, ByteArray.data_append]
theorem ofL_extract (l : List UInt8) (i j : Nat) : (ofL l).extract i j = ofL ((l.take j).drop i) := by
  apply ByteArray.ext
  rw [ByteArray.data_extract]
  apply Array.ext'
  simp [ofL, List.extract_eq_take_drop, List.drop_take]
theorem takeA_head (a b : List UInt8) (n : Int) (hn : n = (a.length : Int)) : takeA n (ofL (a ++ b), 0) = ofL a := by
  subst hn
  unfold takeA
  rw [if_pos rfl, if_neg (by rw [ofL_size, List.length_append]; omega), Int.toNat_natCast, ofL_extract, List.take_left, List.drop_zero]
theorem takeS_head (a b : List UInt8) (n : Int) (hn : n = (a.length : Int)) : takeS n (ofL (a ++ b), 0) = (ofL b, 0) := by
  subst hn
  unfold takeS
  rw [if_pos rfl, if_neg (by rw [ofL_size, List.length_append]; omega), Int.toNat_natCast]
  simp only
  rw [ofL_extract, ofL_size, List.take_length, List.drop_left]
theorem takeA_short (l : List UInt8) (n : Int) (hn : (l.length : Int) < n) : takeA n (ofL l, 0) = nil8 := by
  unfold takeA; rw [if_pos rfl, if_pos (by rw [ofL_size]; exact hn)]
theorem takeS_short (l : List UInt8) (n : Int) (hn : (l.length : Int) < n) : takeS n (ofL l, 0) = (nil8, 2) := by
  unfold takeS; rw [if_pos rfl, if_pos (by rw [ofL_size]; exact hn)]
theorem takeA_broken (s : ByteArray) (f n : Int) (hf : f ≠ 0) : takeA n (s, f) = nil8 := by unfold takeA; rw [if_neg hf]
theorem takeS_broken (s : ByteArray) (f n : Int) (hf : f ≠ 0) : takeS n (s, f) = (s, f) := by unfold takeS; rw [if_neg hf]
theorem stopS_broken (s : ByteArray) (f c : Int) (hf : f ≠ 0) : stopS c (s, f) = (s, f) := by unfold stopS; rw [if_neg hf]
theorem be_nil8 : be nil8.data.toList = 0 := rfl
theorem num_head (a b : List UInt8) (n : Int) (hn : n = (a.length : Int)) : num n (ofL (a ++ b), 0) = be a := by
  unfold num; rw [takeA_head a b n hn, ofL_data]
theorem num_nb (x : Nat) (n : Nat) (b : List UInt8) : num n (ofL (nb x n ++ b), 0) = x % 256 ^ n := by
  rw [num_head _ _ _ (by rw [nb_length]), be_nb]
theorem num2_nb (x : Nat) (hx : x ≤ 65535) (b : List UInt8) : num 2 (ofL (nb x 2 ++ b), 0) = x := by
  exact (num_nb x 2 b).trans (Nat.mod_eq_of_lt (by omega))
theorem text_ok (n : Nat) (t r : List UInt8) (most : Int) (ht : t.length = n) (hn : n ≤ 65535) (hm : (n : Int) ≤ most) : textA most (ofL (nb n 2 ++ (t ++ r)), 0) = ofL t ∧ textS most (ofL (nb n 2 ++ (t ++ r)), 0) = (ofL r, 0) := by
  unfold textA textS textMid
  rw [num2_nb n hn, if_neg (by omega), takeS_head (nb n 2) _ 2 (by rw [nb_length]; rfl), takeA_head t r _ (by rw [ht]), takeS_head t r _ (by rw [ht])]
  exact ⟨rfl, rfl⟩
theorem text_long (n : Nat) (r : List UInt8) (most : Int) (hn : n ≤ 65535) (hm : most < (n : Int)) : textA most (ofL (nb n 2 ++ r), 0) = nil8 ∧ textS most (ofL (nb n 2 ++ r), 0) = (nil8, 3) := by
  unfold textA textS textMid
  rw [num2_nb n hn, if_pos (by omega), takeS_head (nb n 2) _ 2 (by rw [nb_length]; rfl)]
  have e : stopS 3 (ofL r, 0) = (nil8, 3) := rfl
  rw [e, takeA_broken _ _ _ (by decide), takeS_broken _ _ _ (by decide)]
  exact ⟨rfl, rfl⟩
theorem text_cut (n : Nat) (r : List UInt8) (most : Int) (hn : n ≤ 65535) (hm : (n : Int) ≤ most) (hr : r.length < n) : textA most (ofL (nb n 2 ++ r), 0) = nil8 ∧ textS most (ofL (nb n 2 ++ r), 0) = (nil8, 2) := by
  unfold textA textS textMid
  rw [num2_nb n hn, if_neg (by omega), takeS_head (nb n 2) _ 2 (by rw [nb_length]; rfl), takeA_short r _ (by omega), takeS_short r _ (by omega)]
  exact ⟨rfl, rfl⟩
theorem text_broken (s : ByteArray) (f most : Int) (hf : f ≠ 0) : textA most (s, f) = nil8 ∧ textS most (s, f) = (s, f) := by
  unfold textA textS textMid
  rw [takeS_broken _ _ _ hf, stopS_broken _ _ _ hf]
  have e : (if (num 2 (s, f) : Int) > most then (s, f) else (s, f)) = (s, f) := by split <;> rfl
  rw [e, takeA_broken _ _ _ hf, takeS_broken _ _ _ hf]
  exact ⟨rfl, rfl⟩
theorem text_less (l : List UInt8) (most : Int) (hl : l.length < 2) : textA most (ofL l, 0) = nil8 ∧ textS most (ofL l, 0) = (nil8, 2) := by
  unfold textA textS textMid
  rw [takeS_short l 2 (by omega), stopS_broken _ _ _ (by decide)]
  have e : (if (num 2 (ofL l, 0) : Int) > most then (nil8, (2 : Int)) else (nil8, 2)) = (nil8, 2) := by split <;> rfl
  rw [e, takeA_broken _ _ _ (by decide), takeS_broken _ _ _ (by decide)]
  exact ⟨rfl, rfl⟩
theorem raw_ok (a b : List UInt8) (n : Int) (hn : n = (a.length : Int)) : rawA n (ofL (a ++ b), 0) = ofL a ∧ rawS n (ofL (a ++ b), 0) = (ofL b, 0) := by
  unfold rawA rawS rawMid
  rw [if_neg (by omega), takeA_head a b n hn, takeS_head a b n hn]
  exact ⟨rfl, rfl⟩
theorem raw_short (l : List UInt8) (n : Int) (hn : (l.length : Int) < n) : rawA n (ofL l, 0) = nil8 ∧ rawS n (ofL l, 0) = (nil8, 2) := by
  unfold rawA rawS rawMid
  rw [if_neg (by omega), takeA_short l n hn, takeS_short l n hn]
  exact ⟨rfl, rfl⟩
theorem raw_neg (s : ByteArray) (n : Int) (hn : n < 0) : rawA n (s, 0) = nil8 ∧ rawS n (s, 0) = (nil8, 1) := by
  unfold rawA rawS rawMid
  have e : stopS 1 (s, 0) = (nil8, 1) := rfl
  rw [if_pos hn, e, takeA_broken _ _ _ (by decide), takeS_broken _ _ _ (by decide)]
  exact ⟨rfl, rfl⟩
theorem raw_broken (s : ByteArray) (f n : Int) (hf : f ≠ 0) : rawA n (s, f) = nil8 ∧ rawS n (s, f) = (s, f) := by
  unfold rawA rawS rawMid
  rw [stopS_broken _ _ _ hf]
  have e : (if n < 0 then (s, f) else (s, f)) = (s, f) := by split <;> rfl
  rw [e, takeA_broken _ _ _ hf, takeS_broken _ _ _ hf]
  exact ⟨rfl, rfl⟩
theorem done_empty (f : Int) : doneS (nil8, f) = f := rfl
theorem done_ofL (l : List UInt8) (f : Int) : doneS (ofL l, f) = if l = [] then f else 4 := by
  unfold doneS
  simp only [ofL_size]
  cases l <;> simp
end Go.Proofs.Ytfohdolhobooiaa.Cu
