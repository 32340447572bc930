/-
  What is read, by lists of bytes; there and back.
-/
import Derived.Test.YtlohfoggcdaeiaaGreatURead
namespace Go.Proofs.YtlohfoggcdaeiaaGreat
set_option maxRecDepth 20000
open Go.RowKit S
set_option linter.unusedVariables false
set_option linter.unusedSimpArgs false
open Cu (nb be hl ofL RS takeS takeA hOf textA textS nil8 num)
theorem nb_be : ∀ (n : Nat) (l : List UInt8), l.length = n → nb (be l) n = l
  | 0, l, h => by rw [List.length_eq_zero_iff.1 h]; rfl
  | n + 1, l, h => by
    have hne : l ≠ [] := fun e => by rw [e] at h; simp at h
    have e : l = l.dropLast ++ [l.getLast hne] := (List.dropLast_concat_getLast hne).symm
    have hd : l.dropLast.length = n := by rw [List.length_dropLast, h]; rfl
    have ih := nb_be n l.dropLast hd
    rw [e, Cu.be_snoc, Cu.nb_succ]
    have hc := (l.getLast hne).toNat_lt
    have e1 : (be l.dropLast * 256 + (l.getLast hne).toNat) / 256 = be l.dropLast := by omega
    have e2 : UInt8.ofNat (be l.dropLast * 256 + (l.getLast hne).toNat) = l.getLast hne := by
      apply UInt8.toNat_inj.1
      rw [Cu.toNat_ofNat8]; omega
    rw [e1, e2, ih]
theorem takeS_ok (l : List UInt8) (n : Nat) (h : n ≤ l.length) : takeS (n : Int) (ofL l, 0) = (ofL (l.drop n), 0) := by
  have := Cu.takeS_head (l.take n) (l.drop n) (n : Int) (by rw [List.length_take, Nat.min_eq_left h])
  rwa [List.take_append_drop] at this
theorem takeA_ok (l : List UInt8) (n : Nat) (h : n ≤ l.length) : takeA (n : Int) (ofL l, 0) = ofL (l.take n) := by
  have := Cu.takeA_head (l.take n) (l.drop n) (n : Int) (by rw [List.length_take, Nat.min_eq_left h])
  rwa [List.take_append_drop] at this
theorem num_ok (l : List UInt8) (n : Nat) (h : n ≤ l.length) : num (n : Int) (ofL l, 0) = be (l.take n) := by
  unfold num; rw [takeA_ok l n h, Cu.ofL_data]
theorem takeS_bad (n : Int) : takeS n (nil8, 2) = (nil8, 2) := Cu.takeS_broken _ _ _ (by decide)
/-- A hash out of bytes. -/
def hashOf (l : List UInt8) : Nat → UInt8 := fun i => l.getD i 0
theorem hOf_ofL (l : List UInt8) : hOf (ofL l) = hashOf l := by
  funext i; unfold hOf hashOf Cu.byteAt; rw [Cu.ofL_data]
def chk (u : Upd) (n : Int) : Upd × Int × Int := if validB u = true then (u, n, 0) else (Upd.zero, 0, 120)
def short : Upd × Int × Int := (Upd.zero, 0, 2)
def rdL : List UInt8 → Upd × Int × Int
  | [] => short
  | c :: r =>
    if c = 1 then (if r.length < 42 then short else chk ⟨1, (be (r.take 2) : Int), IntKind.i64.wrap (be ((r.drop 2).take 8) : Int), hashOf ((r.drop 10).take 32), nilB⟩ 43)
    else if c = 2 then (if r.length < 34 then short else chk ⟨2, (be (r.take 2) : Int), 0, hashOf ((r.drop 2).take 32), nilB⟩ 35)
    else if c = 3 then (if r.length < 4 then short else if 64 < be ((r.drop 2).take 2) then (Upd.zero, 0, 120) else if r.length < 4 + be ((r.drop 2).take 2) then short
      else chk ⟨3, (be (r.take 2) : Int), 0, fun _ => 0, ofL ((r.drop 4).take (be ((r.drop 2).take 2)))⟩ (5 + (be ((r.drop 2).take 2) : Int)))
    else (Upd.zero, 0, 120)
theorem end_short (b : ByteArray) (u : Upd) : readEnd b u (nil8, 2) = short := rfl
theorem end_long (b : ByteArray) (u : Upd) : readEnd b u (nil8, 3) = (Upd.zero, 0, 120) := by unfold readEnd; simp
theorem end_ok (b : ByteArray) (u : Upd) (l : List UInt8) (n : Int) (h : (b.size : Int) - (l.length : Int) = n) : readEnd b u (ofL l, 0) = chk u n := by
  unfold readEnd chk
  rw [Cu.ofL_size, h]
  cases validB u <;> simp
theorem read_nil : readC (ofL []) = short := by
  unfold readC
  rw [Cu.takeS_short [] 1 (by simp), takeS_bad]
  unfold readK
  rw [if_neg (by decide)]
  rfl
theorem be_one (c : UInt8) : be [c] = c.toNat := by simp [be]
theorem readC_cons (c : UInt8) (r : List UInt8) : readC (ofL (c :: r)) = readK (ofL (c :: r)) (c.toNat : Int) (num 2 (ofL r, 0) : Int) (ofL r, 0) (takeS 2 (ofL r, 0)) := by
  have h1 := takeS_ok (c :: r) 1 (by simp)
  have h2 := num_ok (c :: r) 1 (by simp)
  simp only [List.drop_succ_cons, List.drop_zero, List.take_succ_cons, List.take_zero, be_one] at h1 h2
  unfold readC
  rw [show takeS 1 (ofL (c :: r), 0) = (ofL r, 0) from h1, show num 1 (ofL (c :: r), 0) = c.toNat from h2]
theorem u8_int (c : UInt8) (k : Nat) (hk : k < 256) : (c.toNat : Int) = (k : Int) ↔ c = UInt8.ofNat k := by
  rw [← UInt8.toNat_inj, UInt8.toNat_ofNat', Nat.mod_eq_of_lt (by omega)]
  omega
theorem sizeC (c : UInt8) (r : List UInt8) : ((ofL (c :: r)).size : Int) = (r.length : Int) + 1 := by rw [Cu.ofL_size, List.length_cons]; omega
theorem short8 (r : List UInt8) (h : r.length < 42) : takeS 32 (takeS 8 (takeS 2 (ofL r, 0))) = (nil8, 2) := by
  by_cases h2 : r.length < 2
  · rw [Cu.takeS_short r 2 (by omega), takeS_bad, takeS_bad]
  · rw [show takeS 2 (ofL r, 0) = _ from takeS_ok r 2 (by omega)]
    by_cases h8 : (r.drop 2).length < 8
    · rw [Cu.takeS_short (r.drop 2) 8 (by omega), takeS_bad]
    · rw [show takeS 8 (ofL (r.drop 2), 0) = _ from takeS_ok (r.drop 2) 8 (by omega), Cu.takeS_short _ 32 (by simp only [List.length_drop]; omega)]
theorem short2 (r : List UInt8) (h : r.length < 34) : takeS 32 (takeS 2 (ofL r, 0)) = (nil8, 2) := by
  by_cases h2 : r.length < 2
  · rw [Cu.takeS_short r 2 (by omega), takeS_bad]
  · rw [show takeS 2 (ofL r, 0) = _ from takeS_ok r 2 (by omega), Cu.takeS_short _ 32 (by simp only [List.length_drop]; omega)]
theorem text_form (l : List UInt8) (h : 2 ≤ l.length) : l = nb (be (l.take 2)) 2 ++ l.drop 2 := by
  rw [nb_be 2 (l.take 2) (by rw [List.length_take]; omega), List.take_append_drop]
theorem be2_lt (l : List UInt8) : be (l.take 2) ≤ 65535 := by
  have h := Cu.be_lt (l.take 2)
  have : 256 ^ (l.take 2).length ≤ 256 ^ 2 := Nat.pow_le_pow_right (by decide) (by rw [List.length_take]; omega)
  omega
theorem readC_eq (l : List UInt8) : readC (ofL l) = rdL l := by
  cases l with
  | nil => exact read_nil
  | cons c r =>
    rw [readC_cons]
    unfold readK rdL
    dsimp only
    rw [if_pos (by rfl)]
    by_cases c1 : c = 1
    · rw [if_pos c1, if_pos (by subst c1; rfl)]
      by_cases h : r.length < 42
      · rw [if_pos h, short8 r h, end_short]
      · have e2 : takeS 2 (ofL r, 0) = (ofL (r.drop 2), 0) := takeS_ok r 2 (by omega)
        have e8 : takeS 8 (ofL (r.drop 2), 0) = (ofL (r.drop 10), 0) := by
          have := takeS_ok (r.drop 2) 8 (by rw [List.length_drop]; omega)
          rwa [List.drop_drop] at this
        have e32 : takeS 32 (ofL (r.drop 10), 0) = (ofL (r.drop 42), 0) := by
          have := takeS_ok (r.drop 10) 32 (by rw [List.length_drop]; omega)
          rwa [List.drop_drop] at this
        have a32 : takeA 32 (ofL (r.drop 10), 0) = ofL ((r.drop 10).take 32) := takeA_ok (r.drop 10) 32 (by rw [List.length_drop]; omega)
        have n2 : num 2 (ofL r, 0) = be (r.take 2) := num_ok r 2 (by omega)
        have n8 : num 8 (ofL (r.drop 2), 0) = be ((r.drop 2).take 8) := num_ok (r.drop 2) 8 (by rw [List.length_drop]; omega)
        rw [if_neg h, e2, e8, e32, a32, n2, n8, hOf_ofL]
        exact end_ok _ _ _ _ (by rw [sizeC, List.length_drop]; omega)
    · rw [if_neg c1, if_neg (show ¬((c.toNat : Int) = 1) from fun h => c1 ((u8_int c 1 (by omega)).1 h))]
      by_cases c2 : c = 2
      · rw [if_pos c2, if_pos (by subst c2; rfl)]
        by_cases h : r.length < 34
        · rw [if_pos h, short2 r h, end_short]
        · have e2 : takeS 2 (ofL r, 0) = (ofL (r.drop 2), 0) := takeS_ok r 2 (by omega)
          have e32 : takeS 32 (ofL (r.drop 2), 0) = (ofL (r.drop 34), 0) := by
            have := takeS_ok (r.drop 2) 32 (by rw [List.length_drop]; omega)
            rwa [List.drop_drop] at this
          have a32 : takeA 32 (ofL (r.drop 2), 0) = ofL ((r.drop 2).take 32) := takeA_ok (r.drop 2) 32 (by rw [List.length_drop]; omega)
          have n2 : num 2 (ofL r, 0) = be (r.take 2) := num_ok r 2 (by omega)
          rw [if_neg h, e2, e32, a32, n2, hOf_ofL]
          exact end_ok _ _ _ _ (by rw [sizeC, List.length_drop]; omega)
      · rw [if_neg c2, if_neg (show ¬((c.toNat : Int) = 2) from fun h => c2 ((u8_int c 2 (by omega)).1 h))]
        by_cases c3 : c = 3
        · rw [if_pos c3, if_pos (by subst c3; rfl)]
          by_cases h2 : r.length < 2
          · rw [if_pos (by omega), Cu.takeS_short r 2 (by omega), (Cu.text_broken nil8 2 64 (by decide)).2, end_short]
          · have e2 : takeS 2 (ofL r, 0) = (ofL (r.drop 2), 0) := takeS_ok r 2 (by omega)
            have n2 : num 2 (ofL r, 0) = be (r.take 2) := num_ok r 2 (by omega)
            rw [e2, n2]
            by_cases h4 : r.length < 4
            · rw [if_pos h4, (Cu.text_less (r.drop 2) 64 (by rw [List.length_drop]; omega)).2, end_short]
            · rw [if_neg h4]
              have hf := text_form (r.drop 2) (by rw [List.length_drop]; omega)
              have hb := be2_lt (r.drop 2)
              rw [List.drop_drop] at hf
              obtain ⟨m, hm⟩ : ∃ m, be ((r.drop 2).take 2) = m := ⟨_, rfl⟩
              rw [hm] at hf hb ⊢
              rw [hf]
              by_cases h64 : 64 < m
              · rw [if_pos h64, (Cu.text_long m (r.drop (2 + 2)) 64 hb (by omega)).2, end_long]
              · rw [if_neg h64]
                by_cases hs : r.length < 4 + m
                · rw [if_pos hs, (Cu.text_cut m (r.drop (2 + 2)) 64 hb (by omega) (by rw [List.length_drop]; omega)).2, end_short]
                · rw [if_neg hs]
                  have ht := Cu.text_ok m ((r.drop (2 + 2)).take m) ((r.drop (2 + 2)).drop m) 64 (by rw [List.length_take, List.length_drop]; omega) hb (by omega)
                  rw [List.take_append_drop] at ht
                  rw [ht.1, ht.2]
                  exact end_ok _ _ _ _ (by rw [sizeC, List.length_drop, List.length_drop]; omega)
        · rw [if_neg c3, if_neg (show ¬((c.toNat : Int) = 3) from fun h => c3 ((u8_int c 3 (by omega)).1 h))]
theorem readC_of (b : ByteArray) : readC b = rdL b.data.toList := by rw [← readC_eq, Cu.ofL_of]
theorem writeS_len {u : Upd} (hv : validB u = true) : 0 < (bytesU u).length ∧ (bytesU u).length ≤ 69 := by
  unfold bytesU
  rw [List.length_append, List.length_append, Cu.nb_length, Cu.nb_length]
  rcases valid_kinds hv with ⟨hk, _⟩ | ⟨hk, _⟩ | ⟨hk, _, _, hn⟩
  · rw [if_pos hk, List.length_append, Cu.nb_length, Cu.hl_length]; omega
  · rw [if_neg (by omega), if_pos hk, Cu.hl_length]; omega
  · rw [if_neg (by omega), if_neg (by omega), List.length_append, Cu.nb_length, Cu.str_len]; omega
theorem hashOf_hl (h : Nat → UInt8) (i : Nat) (hi : i < 32) : hashOf (hl h) i = h i := by
  unfold hashOf hl
  rw [List.getD_eq_getElem?_getD, List.getElem?_map, List.getElem?_range hi]; rfl
theorem eqH_hl (h : Nat → UInt8) : eqH (hashOf (hl h)) h = true := (eqH_iff _ _).2 fun i hi => hashOf_hl h i hi
theorem valid_congr {u v : Upd} (h : eqU u v = true) : validB u = validB v := by
  unfold eqU at h
  simp only [Bool.and_eq_true, beq_iff_eq] at h
  obtain ⟨h1, h2, h3, h4, h5⟩ := h
  have e5 : u.note = v.note := by
    rw [ByteArray.toList_eq, ByteArray.toList_eq] at h5
    exact ByteArray.ext (Array.ext' h5)
  have ez : zeroH u.hash = zeroH v.hash := by
    unfold zeroH
    rw [Bool.eq_iff_iff, eqH_iff, eqH_iff]
    have := (eqH_iff _ _).1 h4
    exact ⟨fun h i hi => by rw [← this i hi]; exact h i hi, fun h i hi => by rw [this i hi]; exact h i hi⟩
  unfold validB noteE
  rw [h1, h2, h3, e5, ez]
theorem be_nb2 (x : Nat) (h : x < 65536) : be (nb x 2) = x := by rw [Cu.be_nb]; exact Nat.mod_eq_of_lt (by omega)
theorem be_nb8 (x : Nat) (h : x < 18446744073709551616) : be (nb x 8) = x := by rw [Cu.be_nb]; exact Nat.mod_eq_of_lt (by omega)
theorem nb_one (k : Nat) : nb k 1 = [UInt8.ofNat k] := by simp [nb, Cu.digit]
theorem bytes_add (i a : Int) (h : Nat → UInt8) (nt : ByteArray) : bytesU ⟨1, i, a, h, nt⟩ = 1 :: (nb i.toNat 2 ++ (nb a.toNat 8 ++ hl h)) := by
  unfold bytesU
  rw [if_pos rfl]
  show (nb 1 1 ++ nb i.toNat 2) ++ _ = _
  rw [nb_one]; simp
theorem bytes_ful (i a : Int) (h : Nat → UInt8) (nt : ByteArray) : bytesU ⟨2, i, a, h, nt⟩ = 2 :: (nb i.toNat 2 ++ hl h) := by
  unfold bytesU
  rw [if_neg (by show ¬((2 : Int) = 1); omega), if_pos rfl]
  show (nb 2 1 ++ nb i.toNat 2) ++ _ = _
  rw [nb_one]; simp
theorem bytes_fail (i a : Int) (h : Nat → UInt8) (nt : ByteArray) : bytesU ⟨3, i, a, h, nt⟩ = 3 :: (nb i.toNat 2 ++ (nb nt.size 2 ++ nt.data.toList)) := by
  unfold bytesU
  rw [if_neg (by show ¬((3 : Int) = 1); omega), if_neg (by show ¬((3 : Int) = 2); omega)]
  show (nb 3 1 ++ nb i.toNat 2) ++ _ = _
  rw [nb_one]; simp
theorem drop_app {α : Type} (a b : List α) (n : Nat) (h : a.length = n) : (a ++ b).drop n = b := by rw [← h]; exact List.drop_left ..
theorem take_app {α : Type} (a b : List α) (n : Nat) (h : a.length = n) : (a ++ b).take n = a := by rw [← h]; exact List.take_left ..
/-- What was written is read, whatever stands behind. -/
theorem back_ok {u : Upd} (hv : validB u = true) (r : List UInt8) : ∃ v, rdL (bytesU u ++ r) = (v, ((bytesU u).length : Int), 0) ∧ eqU v u = true := by
  have hi := valid_id hv
  have hk := valid_kinds hv
  obtain ⟨k, i, a, h, nt⟩ := u
  simp only at hi hk
  have ei : (be (nb i.toNat 2) : Int) = i := by rw [be_nb2 _ (by omega)]; omega
  rcases hk with ⟨rfl, h1, h2, h3⟩ | ⟨rfl, rfl, h2⟩ | ⟨rfl, rfl, h2, h3⟩
  · rw [bytes_add]
    have ea : IntKind.i64.wrap (be (nb a.toNat 8) : Int) = a := by rw [be_nb8 _ (by omega), IntKind.wrap_i64]; omega
    have e1 : (nb i.toNat 2 ++ (nb a.toNat 8 ++ hl h) ++ r).take 2 = nb i.toNat 2 := by rw [List.append_assoc]; exact take_app _ _ _ (Cu.nb_length _ _)
    have e2 : ((nb i.toNat 2 ++ (nb a.toNat 8 ++ hl h) ++ r).drop 2).take 8 = nb a.toNat 8 := by
      rw [List.append_assoc, drop_app _ _ _ (Cu.nb_length _ _), List.append_assoc]; exact take_app _ _ _ (Cu.nb_length _ _)
    have e3 : ((nb i.toNat 2 ++ (nb a.toNat 8 ++ hl h) ++ r).drop 10).take 32 = hl h := by
      rw [show (10 : Nat) = 2 + 8 from rfl, ← List.drop_drop, List.append_assoc, drop_app _ _ _ (Cu.nb_length _ _), List.append_assoc, drop_app _ _ _ (Cu.nb_length _ _)]; exact take_app _ _ _ (Cu.hl_length _)
    have hl0 : (1 :: (nb i.toNat 2 ++ (nb a.toNat 8 ++ hl h))).length = 43 := by simp [Cu.nb_length, Cu.hl_length]
    have hlen : (nb i.toNat 2 ++ (nb a.toNat 8 ++ hl h) ++ r).length = 42 + r.length := by simp [Cu.nb_length, Cu.hl_length]; omega
    have hq : eqU ⟨1, i, a, hashOf (hl h), nilB⟩ ⟨1, i, a, h, nt⟩ = true := by
      have := noteE_nil h3
      simp only at this
      subst this
      unfold eqU; simp [eqH_hl]
    refine ⟨⟨1, i, a, hashOf (hl h), nilB⟩, ?_, hq⟩
    rw [hl0, List.cons_append]
    unfold rdL
    dsimp only
    rw [if_pos rfl, if_neg (by rw [hlen]; omega), e1, e2, e3, ei, ea]
    unfold chk
    rw [if_pos ((valid_congr hq).trans hv)]
    rfl
  · rw [bytes_ful]
    have e1 : (nb i.toNat 2 ++ hl h ++ r).take 2 = nb i.toNat 2 := by rw [List.append_assoc]; exact take_app _ _ _ (Cu.nb_length _ _)
    have e3 : ((nb i.toNat 2 ++ hl h ++ r).drop 2).take 32 = hl h := by
      rw [List.append_assoc, drop_app _ _ _ (Cu.nb_length _ _)]; exact take_app _ _ _ (Cu.hl_length _)
    have hl0 : (2 :: (nb i.toNat 2 ++ hl h)).length = 35 := by simp [Cu.nb_length, Cu.hl_length]
    have hlen : (nb i.toNat 2 ++ hl h ++ r).length = 34 + r.length := by simp [Cu.nb_length, Cu.hl_length]; omega
    have hq : eqU ⟨2, i, 0, hashOf (hl h), nilB⟩ ⟨2, i, 0, h, nt⟩ = true := by
      have := noteE_nil h2
      simp only at this
      subst this
      unfold eqU; simp [eqH_hl]
    refine ⟨⟨2, i, 0, hashOf (hl h), nilB⟩, ?_, hq⟩
    rw [hl0, List.cons_append]
    unfold rdL
    dsimp only
    rw [if_neg (by decide), if_pos rfl, if_neg (by rw [hlen]; omega), e1, e3, ei]
    unfold chk
    rw [if_pos ((valid_congr hq).trans hv)]
    rfl
  · rw [bytes_fail]
    have e1 : (nb i.toNat 2 ++ (nb nt.size 2 ++ nt.data.toList) ++ r).take 2 = nb i.toNat 2 := by rw [List.append_assoc]; exact take_app _ _ _ (Cu.nb_length _ _)
    have e2 : ((nb i.toNat 2 ++ (nb nt.size 2 ++ nt.data.toList) ++ r).drop 2).take 2 = nb nt.size 2 := by
      rw [List.append_assoc, drop_app _ _ _ (Cu.nb_length _ _), List.append_assoc]; exact take_app _ _ _ (Cu.nb_length _ _)
    have e3 : ((nb i.toNat 2 ++ (nb nt.size 2 ++ nt.data.toList) ++ r).drop 4).take nt.size = nt.data.toList := by
      rw [show (4 : Nat) = 2 + 2 from rfl, ← List.drop_drop, List.append_assoc, drop_app _ _ _ (Cu.nb_length _ _), List.append_assoc, drop_app _ _ _ (Cu.nb_length _ _)]; exact take_app _ _ _ (Cu.str_len _)
    have hl0 : (3 :: (nb i.toNat 2 ++ (nb nt.size 2 ++ nt.data.toList))).length = 5 + nt.size := by simp [Cu.nb_length, Cu.str_len]; omega
    have hlen : (nb i.toNat 2 ++ (nb nt.size 2 ++ nt.data.toList) ++ r).length = 4 + nt.size + r.length := by simp only [List.length_append, Cu.nb_length, Cu.str_len]; omega
    have hn : be (nb nt.size 2) = nt.size := be_nb2 _ (by omega)
    have hq : eqU ⟨3, i, 0, fun _ => 0, nt⟩ ⟨3, i, 0, h, nt⟩ = true := by
      unfold zeroH at h2
      have hz : eqH (fun _ => 0) h = true := (eqH_iff _ _).2 fun i hi => ((eqH_iff _ _).1 h2 i hi).symm
      unfold eqU; simp [hz]
    refine ⟨⟨3, i, 0, fun _ => 0, nt⟩, ?_, hq⟩
    rw [hl0, List.cons_append]
    unfold rdL
    dsimp only
    rw [if_neg (by decide), if_neg (by decide), if_pos rfl, if_neg (by rw [hlen]; omega), e1, e2, hn, if_neg (by omega), if_neg (by rw [hlen]; omega), e3, ei, Cu.ofL_of]
    unfold chk
    rw [if_pos ((valid_congr hq).trans hv)]
    simp
/-- Fewer of the bytes: too short. -/
theorem back_cut {u : Upd} (hv : validB u = true) (k : Nat) (hk : k < (bytesU u).length) : rdL ((bytesU u).take k) = short := by
  have hi := valid_id hv
  have hkk := valid_kinds hv
  obtain ⟨q, i, a, h, nt⟩ := u
  simp only at hi hkk
  cases k with
  | zero => rfl
  | succ k =>
    rcases hkk with ⟨rfl, h1, h2, h3⟩ | ⟨rfl, rfl, h2⟩ | ⟨rfl, rfl, h2, h3⟩
    · rw [bytes_add] at hk ⊢
      have hl0 : (1 :: (nb i.toNat 2 ++ (nb a.toNat 8 ++ hl h))).length = 43 := by simp [Cu.nb_length, Cu.hl_length]
      rw [hl0] at hk
      rw [List.take_succ_cons]
      unfold rdL
      dsimp only
      rw [if_pos rfl, if_pos (by rw [List.length_take]; omega)]
    · rw [bytes_ful] at hk ⊢
      have hl0 : (2 :: (nb i.toNat 2 ++ hl h)).length = 35 := by simp [Cu.nb_length, Cu.hl_length]
      rw [hl0] at hk
      rw [List.take_succ_cons]
      unfold rdL
      dsimp only
      rw [if_neg (by decide), if_pos rfl, if_pos (by rw [List.length_take]; omega)]
    · rw [bytes_fail] at hk ⊢
      have hl0 : (3 :: (nb i.toNat 2 ++ (nb nt.size 2 ++ nt.data.toList))).length = 5 + nt.size := by simp [Cu.nb_length, Cu.str_len]; omega
      have hn : be (nb nt.size 2) = nt.size := be_nb2 _ (by omega)
      rw [hl0] at hk
      rw [List.take_succ_cons]
      unfold rdL
      dsimp only
      rw [if_neg (by decide), if_neg (by decide), if_pos rfl]
      by_cases h4 : k < 4
      · rw [if_pos (by rw [List.length_take]; omega)]
      · have e2 : (((nb i.toNat 2 ++ (nb nt.size 2 ++ nt.data.toList)).take k).drop 2).take 2 = nb nt.size 2 := by
          rw [List.drop_take, List.take_take, Nat.min_eq_left (by omega), drop_app _ _ _ (Cu.nb_length _ _)]
          exact take_app _ _ _ (Cu.nb_length _ _)
        have hlen : ((nb i.toNat 2 ++ (nb nt.size 2 ++ nt.data.toList)).take k).length = k := by
          rw [List.length_take]; simp only [List.length_append, Cu.nb_length, Cu.str_len]; omega
        rw [if_neg (by rw [hlen]; exact h4), e2, hn, if_neg (by omega), if_pos (by rw [hlen]; omega)]
theorem hl_hashOf (l : List UInt8) (h : l.length = 32) : hl (hashOf l) = l := by
  apply List.ext_getElem?
  intro i
  unfold hl hashOf
  by_cases hi : i < 32
  · rw [List.getElem?_map, List.getElem?_range hi, List.getElem?_eq_getElem (by omega)]
    simp [List.getD_eq_getElem?_getD, List.getElem?_eq_getElem (show i < l.length by omega)]
  · rw [List.getElem?_eq_none (by simp; omega), List.getElem?_eq_none (by omega)]
theorem rd_err (l : List UInt8) (h : (rdL l).2.2 ≠ 0) : rdL l = short ∨ rdL l = (Upd.zero, 0, 120) := by
  have hc : ∀ u n, (chk u n).2.2 ≠ 0 → chk u n = (Upd.zero, 0, 120) := fun u n h => by
    unfold chk at h ⊢
    cases hv : validB u with
    | true => simp [hv] at h
    | false => rw [if_neg (by decide)]
  cases l with
  | nil => exact .inl rfl
  | cons c r =>
    unfold rdL at h ⊢
    dsimp only at h ⊢
    repeat' split
    all_goals first | exact .inl rfl | exact .inr rfl | (refine .inr (hc _ _ ?_); simp_all)
theorem take_parts (r : List UInt8) (a b : Nat) : r.take a ++ (r.drop a).take b = r.take (a + b) := by rw [List.take_add]
/-- What is read is valid and is written as it was read. -/
theorem rd_ok (l : List UInt8) (v : Upd) (n : Int) (h : rdL l = (v, n, 0)) : validB v = true ∧ 0 < n ∧ n ≤ (l.length : Int) ∧ bytesU v = l.take n.toNat := by
  have hc : ∀ u m, chk u m = (v, n, 0) → validB u = true ∧ u = v ∧ m = n := fun u m h => by
    unfold chk at h
    cases hv : validB u with
    | true => rw [hv, if_pos rfl] at h; simp only [Prod.mk.injEq, and_true] at h; exact ⟨rfl, h.1, h.2⟩
    | false => rw [hv, if_neg (by decide)] at h; simp at h
  cases l with
  | nil => simp [rdL, short] at h
  | cons c r =>
    unfold rdL at h
    dsimp only at h
    by_cases c1 : c = 1
    · subst c1
      rw [if_pos rfl] at h
      by_cases hs : r.length < 42
      · rw [if_pos hs] at h; simp [short] at h
      · rw [if_neg hs] at h
        obtain ⟨hv, rfl, rfl⟩ := hc _ _ h
        refine ⟨hv, by omega, by simp; omega, ?_⟩
        have hk := valid_kinds hv
        simp only at hk
        have ha : 1 ≤ IntKind.i64.wrap (be ((r.drop 2).take 8) : Int) := by
          rcases hk with ⟨_, h1, _⟩ | ⟨h0, _⟩ | ⟨h0, _⟩
          · exact h1
          · omega
          · omega
        have hb : be ((r.drop 2).take 8) < 18446744073709551616 := by
          have := Cu.be_lt ((r.drop 2).take 8)
          rw [show ((r.drop 2).take 8).length = 8 by rw [List.length_take, List.length_drop]; omega] at this
          omega
        have ea : (IntKind.i64.wrap (be ((r.drop 2).take 8) : Int)).toNat = be ((r.drop 2).take 8) := by
          rw [IntKind.wrap_i64] at ha ⊢; omega
        rw [bytes_add, ea, Int.toNat_natCast, nb_be 2 _ (by rw [List.length_take]; omega), nb_be 8 _ (by rw [List.length_take, List.length_drop]; omega), hl_hashOf _ (by rw [List.length_take, List.length_drop]; omega)]
        show _ = (1 :: r).take 43
        rw [List.take_succ_cons, ← List.append_assoc, take_parts, take_parts]
    · rw [if_neg c1] at h
      by_cases c2 : c = 2
      · subst c2
        rw [if_pos rfl] at h
        by_cases hs : r.length < 34
        · rw [if_pos hs] at h; simp [short] at h
        · rw [if_neg hs] at h
          obtain ⟨hv, rfl, rfl⟩ := hc _ _ h
          refine ⟨hv, by omega, by simp; omega, ?_⟩
          rw [bytes_ful, Int.toNat_natCast, nb_be 2 _ (by rw [List.length_take]; omega), hl_hashOf _ (by rw [List.length_take, List.length_drop]; omega)]
          show _ = (2 :: r).take 35
          rw [List.take_succ_cons, take_parts]
      · rw [if_neg c2] at h
        by_cases c3 : c = 3
        · subst c3
          rw [if_pos rfl] at h
          by_cases h4 : r.length < 4
          · rw [if_pos h4] at h; simp [short] at h
          · rw [if_neg h4] at h
            obtain ⟨m, hm⟩ : ∃ m, be ((r.drop 2).take 2) = m := ⟨_, rfl⟩
            rw [hm] at h
            by_cases h64 : 64 < m
            · rw [if_pos h64] at h; simp at h
            · rw [if_neg h64] at h
              by_cases hs : r.length < 4 + m
              · rw [if_pos hs] at h; simp [short] at h
              · rw [if_neg hs] at h
                obtain ⟨hv, rfl, rfl⟩ := hc _ _ h
                refine ⟨hv, by omega, by simp; omega, ?_⟩
                have hsz : (ofL ((r.drop 4).take m)).size = m := by rw [Cu.ofL_size, List.length_take, List.length_drop]; omega
                rw [bytes_fail, Int.toNat_natCast, nb_be 2 _ (by rw [List.length_take]; omega), hsz, Cu.ofL_data]
                rw [show nb m 2 = (r.drop 2).take 2 by rw [← hm]; exact nb_be 2 _ (by rw [List.length_take, List.length_drop]; omega)]
                rw [show (5 + (m : Int)).toNat = (4 + m) + 1 by omega, List.take_succ_cons, ← List.append_assoc, take_parts, show (4 : Nat) = 2 + 2 from rfl, take_parts]
        · rw [if_neg c3] at h; simp at h
end Go.Proofs.YtlohfoggcdaeiaaGreat
