/-
  Messages: what is written and read, by lists of bytes; there and back.
-/
import Derived.Test.YtfohdolhobooiaaMBase
namespace Go.Proofs.Ytfohdolhobooiaa
open Go.RowKit S
set_option linter.unusedVariables false
set_option linter.unusedSimpArgs false
open Cu (nb be hl ofL RS takeS takeA hOf nil8 num doneS)
def Msg.upd (m : Msg) : Upd := ⟨m.kind, m.id, m.amt, m.hash, m.note⟩
def ofU (u : Upd) : Msg := ⟨u.kind, u.id, u.amt, 0, 0, u.hash, z32, u.note⟩
theorem upd_ofU (u : Upd) : (ofU u).upd = u := rfl
def isU (k : Int) : Prop := k = 1 ∨ k = 2 ∨ k = 3
def isO (k : Int) : Prop := k = 4 ∨ k = 5 ∨ k = 6 ∨ k = 7
instance (k : Int) : Decidable (isU k) := by unfold isU; infer_instance
instance (k : Int) : Decidable (isO k) := by unfold isO; infer_instance
def idxB (n : Int) : Bool := decide (0 ≤ n) && decide (n ≤ 281474976710655)
theorem idxB_iff (n : Int) : idxB n = true ↔ 0 ≤ n ∧ n ≤ 281474976710655 := by unfold idxB; simp
def named (m : Msg) : Msg :=
  if m.kind = 4 then ⟨m.kind, 0, 0, m.idx, 0, m.hash, z32, nilB⟩
  else if m.kind = 5 then ⟨m.kind, 0, 0, m.idx, 0, m.hash, m.sec, nilB⟩
  else if m.kind = 6 then ⟨m.kind, 0, 0, m.idx, m.nxt, z32, m.sec, nilB⟩
  else ⟨m.kind, 0, 0, m.idx, 0, z32, z32, nilB⟩
def validM (m : Msg) : Bool :=
  if isU m.kind then validB m.upd && eqM m (ofU m.upd)
  else if isO m.kind then eqM m (named m) && (idxB m.idx && idxB m.nxt)
  else false
def bytesM (m : Msg) : List UInt8 :=
  if isU m.kind then bytesU m.upd
  else if m.kind = 4 then 4 :: (nb m.idx.toNat 8 ++ hl m.hash)
  else if m.kind = 5 then 5 :: (nb m.idx.toNat 8 ++ (hl m.sec ++ hl m.hash))
  else if m.kind = 6 then 6 :: (nb m.idx.toNat 8 ++ (nb m.nxt.toNat 8 ++ hl m.sec))
  else 7 :: nb m.idx.toNat 8
def U8n (x : Int) : Nat := (IntKind.u8.wrap x).toNat
def U64n (x : Int) : Nat := (IntKind.u64.wrap x).toNat
def layT (m : Msg) : List UInt8 :=
  if m.kind = 4 then hl m.hash else if m.kind = 5 then hl m.sec ++ hl m.hash else if m.kind = 6 then nb (U64n m.nxt) 8 ++ hl m.sec else []
def layL (m : Msg) : List UInt8 :=
  if isU m.kind then (if validB m.upd = true then bytesU m.upd else [])
  else nb (U8n m.kind) 1 ++ (nb (U64n m.idx) 8 ++ layT m)
def badM : Msg × Int := (Msg.zero, 160)
def I8 (r : List UInt8) : Int := IntKind.i64.wrap (be (r.take 8) : Int)
def rdO : List UInt8 → Msg × Int
  | [] => badM
  | c :: r =>
    if c = 4 then (if r.length = 40 ∧ idxB (I8 r) = true then (⟨4, 0, 0, I8 r, 0, hashOf ((r.drop 8).take 32), z32, nilB⟩, 0) else badM)
    else if c = 5 then (if r.length = 72 ∧ idxB (I8 r) = true then (⟨5, 0, 0, I8 r, 0, hashOf ((r.drop 40).take 32), hashOf ((r.drop 8).take 32), nilB⟩, 0) else badM)
    else if c = 6 then (if r.length = 48 ∧ idxB (I8 r) = true ∧ idxB (I8 (r.drop 8)) = true then (⟨6, 0, 0, I8 r, I8 (r.drop 8), z32, hashOf ((r.drop 16).take 32), nilB⟩, 0) else badM)
    else if c = 7 then (if r.length = 8 ∧ idxB (I8 r) = true then (⟨7, 0, 0, I8 r, 0, z32, z32, nilB⟩, 0) else badM)
    else badM
def rdM (l : List UInt8) : Msg × Int := if (rdL l).2.2 = 0 ∧ (rdL l).2.1 = (l.length : Int) then (ofU (rdL l).1, 0) else rdO l
theorem noteEq {a b : ByteArray} (h : a.toList = b.toList) : a = b := by
  rw [ByteArray.toList_eq, ByteArray.toList_eq] at h
  exact ByteArray.ext (Array.ext' h)
theorem bytesU_congr {u v : Upd} (h : eqU u v = true) : bytesU u = bytesU v := by
  unfold eqU at h
  simp only [Bool.and_eq_true, beq_iff_eq] at h
  obtain ⟨h1, h2, h3, h4, h5⟩ := h
  have h5' : u.note = v.note := noteEq h5
  have h6 : hl u.hash = hl v.hash := by
    unfold hl
    exact List.map_congr_left fun i hi => (eqH_iff _ _).1 h4 i (List.mem_range.1 hi)
  unfold bytesU
  rw [h1, h2, h3, h5', h6]
theorem hl_congr {f g : Nat → UInt8} (h : eqH f g = true) : hl f = hl g := by
  unfold hl
  exact List.map_congr_left fun i hi => (eqH_iff _ _).1 h i (List.mem_range.1 hi)
theorem eqH_symm {f g : Nat → UInt8} (h : eqH f g = true) : eqH g f = true := (eqH_iff _ _).2 fun i hi => ((eqH_iff _ _).1 h i hi).symm
theorem eqH_trans {f g k : Nat → UInt8} (h : eqH f g = true) (h2 : eqH g k = true) : eqH f k = true := (eqH_iff _ _).2 fun i hi => ((eqH_iff _ _).1 h i hi).trans ((eqH_iff _ _).1 h2 i hi)
theorem eqM_symm {s t : Msg} (h : eqM s t = true) : eqM t s = true := by
  rw [eqM_iff] at h ⊢
  obtain ⟨a, b, c, d, e, f, g, i⟩ := h
  exact ⟨a.symm, b.symm, c.symm, d.symm, e.symm, eqH_symm f, eqH_symm g, i.symm⟩
theorem eqM_trans {s t u : Msg} (h : eqM s t = true) (h2 : eqM t u = true) : eqM s u = true := by
  rw [eqM_iff] at h h2 ⊢
  obtain ⟨a, b, c, d, e, f, g, i⟩ := h
  obtain ⟨a', b', c', d', e', f', g', i'⟩ := h2
  exact ⟨a.trans a', b.trans b', c.trans c', d.trans d', e.trans e', eqH_trans f f', eqH_trans g g', i.trans i'⟩
theorem eqU_of {s t : Msg} (h : eqM s t = true) : eqU s.upd t.upd = true := by
  rw [eqM_iff] at h
  obtain ⟨a, b, c, d, e, f, g, i⟩ := h
  unfold eqU Msg.upd
  simp [a, b, c, f, i]
theorem ofU_congr {s t : Msg} (h : eqM s t = true) : eqM (ofU s.upd) (ofU t.upd) = true := by
  rw [eqM_iff] at h ⊢
  obtain ⟨a, b, c, d, e, f, g, i⟩ := h
  exact ⟨a, b, c, rfl, rfl, f, eqH_refl _, i⟩
theorem named_congr {s t : Msg} (h : eqM s t = true) : eqM (named s) (named t) = true := by
  have h' := h
  rw [eqM_iff] at h
  obtain ⟨a, b, c, d, e, f, g, i⟩ := h
  unfold named
  rw [a]
  by_cases k4 : t.kind = 4
  · rw [if_pos k4, if_pos k4, eqM_iff]; exact ⟨rfl, rfl, rfl, d, rfl, f, eqH_refl _, rfl⟩
  · by_cases k5 : t.kind = 5
    · rw [if_neg k4, if_neg k4, if_pos k5, if_pos k5, eqM_iff]; exact ⟨rfl, rfl, rfl, d, rfl, f, g, rfl⟩
    · by_cases k6 : t.kind = 6
      · rw [if_neg k4, if_neg k4, if_neg k5, if_neg k5, if_pos k6, if_pos k6, eqM_iff]; exact ⟨rfl, rfl, rfl, d, e, eqH_refl _, g, rfl⟩
      · rw [if_neg k4, if_neg k4, if_neg k5, if_neg k5, if_neg k6, if_neg k6, eqM_iff]; exact ⟨rfl, rfl, rfl, d, rfl, eqH_refl _, eqH_refl _, rfl⟩
theorem eqM_both {s s' t t' : Msg} (h : eqM s s' = true) (h2 : eqM t t' = true) : eqM s t = eqM s' t' := by
  rw [Bool.eq_iff_iff]
  exact ⟨fun k => eqM_trans (eqM_trans (eqM_symm h) k) h2, fun k => eqM_trans (eqM_trans h k) (eqM_symm h2)⟩
theorem validM_congr {s t : Msg} (h : eqM s t = true) : validM s = validM t := by
  have h' := (eqM_iff s t).1 h
  obtain ⟨a, b, c, d, e, f, g, i⟩ := h'
  unfold validM
  rw [a, d, e, valid_congr (eqU_of h), eqM_both h (ofU_congr h), eqM_both h (named_congr h)]
theorem bytesM_congr {s t : Msg} (h : eqM s t = true) : bytesM s = bytesM t := by
  have h' := (eqM_iff s t).1 h
  obtain ⟨a, b, c, d, e, f, g, i⟩ := h'
  unfold bytesM
  rw [a, d, e, bytesU_congr (eqU_of h), hl_congr f, hl_congr g]
theorem U64n_of {x : Int} (h : idxB x = true) : U64n x = x.toNat := by
  rw [idxB_iff] at h
  unfold U64n
  rw [IntKind.wrap_u64]
  omega
theorem I8_ok {r : List UInt8} (h : idxB (I8 r) = true) (h8 : 8 ≤ r.length) : nb (I8 r).toNat 8 = r.take 8 := by
  rw [idxB_iff] at h
  have hl8 : (r.take 8).length = 8 := by rw [List.length_take]; omega
  have hb := Cu.be_lt (r.take 8)
  rw [hl8] at hb
  have e : (I8 r).toNat = be (r.take 8) := by
    unfold I8 at h ⊢
    rw [IntKind.wrap_i64] at h ⊢
    omega
  rw [e, nb_be 8 _ hl8]
theorem I8_nb (x : Int) (h : idxB x = true) (r : List UInt8) : I8 (nb x.toNat 8 ++ r) = x := by
  rw [idxB_iff] at h
  unfold I8
  rw [take_app _ _ 8 (Cu.nb_length _ _), be_nb8 _ (by omega), IntKind.wrap_i64]
  omega
theorem rdL_other (c : UInt8) (r : List UInt8) (h1 : c ≠ 1) (h2 : c ≠ 2) (h3 : c ≠ 3) : rdL (c :: r) = (Upd.zero, 0, 120) := by
  unfold rdL
  dsimp only
  rw [if_neg h1, if_neg h2, if_neg h3]
theorem rdM_other (c : UInt8) (r : List UInt8) (h1 : c ≠ 1) (h2 : c ≠ 2) (h3 : c ≠ 3) : rdM (c :: r) = rdO (c :: r) := by
  unfold rdM
  rw [rdL_other c r h1 h2 h3, if_neg (by simp)]
theorem rdO_upd (c : UInt8) (r : List UInt8) (h : c = 1 ∨ c = 2 ∨ c = 3) : rdO (c :: r) = badM := by
  unfold rdO
  dsimp only
  rw [if_neg (by rcases h with rfl | rfl | rfl <;> decide), if_neg (by rcases h with rfl | rfl | rfl <;> decide), if_neg (by rcases h with rfl | rfl | rfl <;> decide), if_neg (by rcases h with rfl | rfl | rfl <;> decide)]
theorem split40 (r : List UInt8) (h : r.length = 40) : r = r.take 8 ++ (r.drop 8).take 32 := by
  rw [take_parts, List.take_of_length_le (by omega)]
theorem split72 (r : List UInt8) (h : r.length = 72) : r = r.take 8 ++ ((r.drop 8).take 32 ++ (r.drop 40).take 32) := by
  have h1 := take_parts (r.drop 8) 32 32
  rw [List.drop_drop] at h1
  rw [show (r.drop 40).take 32 = (r.drop (8 + 32)).take 32 from rfl, h1, take_parts, List.take_of_length_le (by omega)]
theorem split48 (r : List UInt8) (h : r.length = 48) : r = r.take 8 ++ ((r.drop 8).take 8 ++ (r.drop 16).take 32) := by
  have h1 := take_parts (r.drop 8) 8 32
  rw [List.drop_drop] at h1
  rw [show (r.drop 16).take 32 = (r.drop (8 + 8)).take 32 from rfl, h1, take_parts, List.take_of_length_le (by omega)]
theorem hl_part (r : List UInt8) (k : Nat) (h : k + 32 ≤ r.length) : hl (hashOf ((r.drop k).take 32)) = (r.drop k).take 32 := hl_hashOf _ (by rw [List.length_take, List.length_drop]; omega)
theorem rdO_ok (l : List UInt8) (x : Msg) (h : rdO l = (x, 0)) : validM x = true ∧ bytesM x = l := by
  have nb0 : ∀ y : Msg, badM = (y, (0 : Int)) → False := fun y e => by
    have := congrArg Prod.snd e
    simp [badM] at this
  cases l with
  | nil => exact (nb0 _ h).elim
  | cons c r =>
    unfold rdO at h
    dsimp only at h
    by_cases c4 : c = 4
    · rw [if_pos c4] at h
      by_cases hh : r.length = 40 ∧ idxB (I8 r) = true
      · rw [if_pos hh] at h
        obtain rfl := congrArg Prod.fst h
        refine ⟨by unfold validM isU isO named; simp [hh.2, eqM_refl, show idxB 0 = true from rfl], ?_⟩
        unfold bytesM isU
        simp only [Int.reduceEq, or_self, if_false, if_true, reduceIte]
        have e := split40 r hh.1
        have e1 := I8_ok hh.2 (by omega)
        have e2 := hl_part r 8 (by omega)
        rw [show nb (Int.toNat (I8 r)) 8 = r.take 8 from e1, e2, ← e, c4]
      · rw [if_neg hh] at h; exact (nb0 _ h).elim
    rw [if_neg c4] at h
    by_cases c5 : c = 5
    · rw [if_pos c5] at h
      by_cases hh : r.length = 72 ∧ idxB (I8 r) = true
      · rw [if_pos hh] at h
        obtain rfl := congrArg Prod.fst h
        refine ⟨by unfold validM isU isO named; simp [hh.2, eqM_refl, show idxB 0 = true from rfl], ?_⟩
        unfold bytesM isU
        simp only [Int.reduceEq, or_self, if_false, if_true, reduceIte]
        have e := split72 r hh.1
        have e1 := I8_ok hh.2 (by omega)
        rw [show nb (Int.toNat (I8 r)) 8 = r.take 8 from e1, hl_part r 8 (by omega), hl_part r 40 (by omega), ← e, c5]
      · rw [if_neg hh] at h; exact (nb0 _ h).elim
    rw [if_neg c5] at h
    by_cases c6 : c = 6
    · rw [if_pos c6] at h
      by_cases hh : r.length = 48 ∧ idxB (I8 r) = true ∧ idxB (I8 (r.drop 8)) = true
      · rw [if_pos hh] at h
        obtain rfl := congrArg Prod.fst h
        refine ⟨by unfold validM isU isO named; simp [hh.2, eqM_refl, show idxB 0 = true from rfl], ?_⟩
        unfold bytesM isU
        simp only [Int.reduceEq, or_self, if_false, if_true, reduceIte]
        have e := split48 r hh.1
        have e1 := I8_ok hh.2.1 (by omega)
        have e2 := I8_ok hh.2.2 (by rw [List.length_drop]; omega)
        rw [show nb (Int.toNat (I8 r)) 8 = r.take 8 from e1, show nb (Int.toNat (I8 (r.drop 8))) 8 = (r.drop 8).take 8 from e2, hl_part r 16 (by omega), ← e, c6]
      · rw [if_neg hh] at h; exact (nb0 _ h).elim
    rw [if_neg c6] at h
    by_cases c7 : c = 7
    · rw [if_pos c7] at h
      by_cases hh : r.length = 8 ∧ idxB (I8 r) = true
      · rw [if_pos hh] at h
        obtain rfl := congrArg Prod.fst h
        refine ⟨by unfold validM isU isO named; simp [hh.2, eqM_refl, show idxB 0 = true from rfl], ?_⟩
        unfold bytesM isU
        simp only [Int.reduceEq, or_self, if_false, if_true, reduceIte]
        have e1 := I8_ok hh.2 (by omega)
        rw [show nb (Int.toNat (I8 r)) 8 = r.take 8 from e1, List.take_of_length_le (by omega), c7]
      · rw [if_neg hh] at h; exact (nb0 _ h).elim
    rw [if_neg c7] at h
    exact (nb0 _ h).elim
theorem kind_U {u : Upd} (h : validB u = true) : isU u.kind := by
  rcases valid_kinds h with h | h | h
  · exact .inl h.1
  · exact .inr (.inl h.1)
  · exact .inr (.inr h.1)
theorem rdM_ok (l : List UInt8) (x : Msg) (h : rdM l = (x, 0)) : validM x = true ∧ bytesM x = l := by
  unfold rdM at h
  by_cases hh : (rdL l).2.2 = 0 ∧ (rdL l).2.1 = (l.length : Int)
  · rw [if_pos hh] at h
    obtain rfl := congrArg Prod.fst h
    obtain ⟨v, n, e, hv⟩ : ∃ v n e, rdL l = (v, n, e) := ⟨_, _, _, rfl⟩
    rw [hv] at hh
    obtain ⟨rfl, rfl⟩ := hh
    rw [hv]
    obtain ⟨h1, h2, h3, h4⟩ := rd_ok l v _ hv
    have hk := kind_U h1
    rw [Int.toNat_natCast, List.take_of_length_le (Nat.le_refl _)] at h4
    constructor
    · unfold validM
      rw [if_pos (show isU (ofU v).kind from hk), upd_ofU, h1, eqM_refl]
      rfl
    · unfold bytesM
      rw [if_pos (show isU (ofU v).kind from hk), upd_ofU]
      exact h4
  · rw [if_neg hh] at h
    exact rdO_ok l x h
theorem rdO_bad (l : List UInt8) : (rdO l).2 = 0 ∨ rdO l = badM := by
  cases l with
  | nil => exact .inr rfl
  | cons c r =>
    unfold rdO
    dsimp only
    repeat' split
    all_goals first | exact .inl rfl | exact .inr rfl
theorem rdM_bad (l : List UInt8) : (rdM l).2 = 0 ∨ rdM l = badM := by
  unfold rdM
  split
  · exact .inl rfl
  · exact rdO_bad l
/-- The forms of a valid message. -/
theorem valid_forms {m : Msg} (h : validM m = true) : (isU m.kind ∧ validB m.upd = true ∧ eqM m (ofU m.upd) = true) ∨ (isO m.kind ∧ eqM m (named m) = true ∧ idxB m.idx = true ∧ idxB m.nxt = true) := by
  unfold validM at h
  by_cases k : isU m.kind
  · rw [if_pos k, Bool.and_eq_true] at h
    exact .inl ⟨k, h.1, h.2⟩
  · rw [if_neg k] at h
    by_cases k2 : isO m.kind
    · rw [if_pos k2, Bool.and_eq_true, Bool.and_eq_true] at h
      exact .inr ⟨k2, h.1, h.2.1, h.2.2⟩
    · rw [if_neg k2] at h; cases h
theorem notU {k : Int} (h : isO k) : ¬isU k := by unfold isU isO at *; omega
theorem lay_valid {m : Msg} (h : validM m = true) : layL m = bytesM m := by
  rcases valid_forms h with ⟨hk, hv, he⟩ | ⟨hk, he, hi, hn⟩
  · unfold layL bytesM
    rw [if_pos hk, if_pos hk, if_pos hv]
  · unfold layL bytesM layT
    rw [if_neg (notU hk), if_neg (notU hk), U64n_of hi, U64n_of hn]
    rcases hk with k | k | k | k
    · rw [k]; simp [nb_one, U8n, IntKind.wrap_u8]
    · rw [k]; simp [nb_one, U8n, IntKind.wrap_u8]
    · rw [k]; simp [nb_one, U8n, IntKind.wrap_u8]
    · rw [k]; simp [nb_one, U8n, IntKind.wrap_u8]
theorem head_U {m : Msg} (hk : isU m.kind) : ∃ c r, bytesU m.upd = c :: r ∧ (c = 1 ∨ c = 2 ∨ c = 3) := by
  obtain ⟨k, i, a, x, n, h, s, t⟩ := m
  rcases hk with e | e | e
  · have e : k = 1 := e
    subst e
    exact ⟨_, _, bytes_add _ _ _ _, .inl rfl⟩
  · have e : k = 2 := e
    subst e
    exact ⟨_, _, bytes_ful _ _ _ _, .inr (.inl rfl)⟩
  · have e : k = 3 := e
    subst e
    exact ⟨_, _, bytes_fail _ _ _ _, .inr (.inr rfl)⟩
theorem rdM_back {m : Msg} (h : validM m = true) : ∃ x, rdM (bytesM m) = (x, 0) ∧ eqM x m = true := by
  rcases valid_forms h with ⟨hk, hv, he⟩ | ⟨hk, he, hi, hn⟩
  · unfold bytesM
    rw [if_pos hk]
    obtain ⟨v, h1, h2⟩ := back_ok hv []
    rw [List.append_nil] at h1
    refine ⟨ofU v, ?_, ?_⟩
    · unfold rdM
      rw [h1, if_pos ⟨rfl, rfl⟩]
    · refine eqM_trans ?_ (eqM_symm he)
      rw [eqM_iff]
      unfold eqU at h2
      simp only [Bool.and_eq_true, beq_iff_eq] at h2
      obtain ⟨a, b, c, d, e⟩ := h2
      have e' : v.note = m.upd.note := noteEq e
      exact ⟨a, b, c, rfl, rfl, d, eqH_refl _, e'⟩
  · have hb : bytesM m = bytesM m := rfl
    unfold bytesM
    rw [if_neg (notU hk)]
    have l8 : (nb m.idx.toNat 8).length = 8 := Cu.nb_length _ _
    have l8' : (nb m.nxt.toNat 8).length = 8 := Cu.nb_length _ _
    have lh : (hl m.hash).length = 32 := Cu.hl_length _
    have ls : (hl m.sec).length = 32 := Cu.hl_length _
    unfold named at he
    rcases hk with k | k | k | k
    · rw [if_pos k] at he ⊢
      rw [rdM_other _ _ (by decide) (by decide) (by decide)]
      unfold rdO
      dsimp only
      rw [if_pos rfl, I8_nb _ hi, if_pos ⟨by rw [List.length_append, l8, lh], hi⟩, drop_app _ _ 8 l8, List.take_of_length_le (by omega)]
      refine ⟨_, rfl, eqM_trans ?_ (eqM_symm he)⟩
      rw [eqM_iff]
      exact ⟨k.symm, rfl, rfl, rfl, rfl, eqH_hl _, eqH_refl _, rfl⟩
    · rw [if_neg (by omega), if_pos k] at he ⊢
      rw [rdM_other _ _ (by decide) (by decide) (by decide)]
      unfold rdO
      dsimp only
      rw [if_neg (by decide), if_pos rfl, I8_nb _ hi, if_pos ⟨by rw [List.length_append, List.length_append, l8, lh, ls], hi⟩, drop_app _ _ 8 l8, take_app _ _ 32 ls, show (40 : Nat) = 8 + 32 from rfl, ← List.drop_drop, drop_app _ _ 8 l8, drop_app _ _ 32 ls, List.take_of_length_le (by omega)]
      refine ⟨_, rfl, eqM_trans ?_ (eqM_symm he)⟩
      rw [eqM_iff]
      exact ⟨k.symm, rfl, rfl, rfl, rfl, eqH_hl _, eqH_hl _, rfl⟩
    · rw [if_neg (by omega), if_neg (by omega), if_pos k] at he ⊢
      rw [rdM_other _ _ (by decide) (by decide) (by decide)]
      unfold rdO
      dsimp only
      rw [if_neg (by decide), if_neg (by decide), if_pos rfl, I8_nb _ hi, drop_app _ _ 8 l8, I8_nb _ hn, if_pos ⟨by rw [List.length_append, List.length_append, l8, l8', ls], hi, hn⟩, show (16 : Nat) = 8 + 8 from rfl, ← List.drop_drop, drop_app _ _ 8 l8, drop_app _ _ 8 l8', List.take_of_length_le (by omega)]
      refine ⟨_, rfl, eqM_trans ?_ (eqM_symm he)⟩
      rw [eqM_iff]
      exact ⟨k.symm, rfl, rfl, rfl, rfl, eqH_refl _, eqH_hl _, rfl⟩
    · rw [if_neg (by omega), if_neg (by omega), if_neg (by omega)] at he ⊢
      rw [rdM_other _ _ (by decide) (by decide) (by decide)]
      have e8 := I8_nb _ hi []
      rw [List.append_nil] at e8
      unfold rdO
      dsimp only
      rw [if_neg (by decide), if_neg (by decide), if_neg (by decide), if_pos rfl, e8, if_pos ⟨l8, hi⟩]
      refine ⟨_, rfl, eqM_trans ?_ (eqM_symm he)⟩
      rw [eqM_iff]
      exact ⟨k.symm, rfl, rfl, rfl, rfl, eqH_refl _, eqH_refl _, rfl⟩
/-- What Write answers. -/
def wrS (m : Msg) : ByteArray := if validM m = true then ofL (bytesM m) else nilB
def wrE (m : Msg) : Int := if validM m = true then 0 else 160
theorem wrM_yes {m : Msg} (h : (rdM (layL m)).2 = 0) (h2 : eqM (rdM (layL m)).1 m = true) : validM m = true ∧ layL m = bytesM m := by
  obtain ⟨x, e, hx⟩ : ∃ x e, rdM (layL m) = (x, e) := ⟨_, _, rfl⟩
  rw [hx] at h h2
  have h : e = 0 := h
  subst h
  have h2 : eqM x m = true := h2
  have hv : validM m = true := by rw [← validM_congr h2]; exact (rdM_ok _ _ hx).1
  exact ⟨hv, lay_valid hv⟩
theorem wrM_no {m : Msg} (h : ¬((rdM (layL m)).2 = 0 ∧ eqM (rdM (layL m)).1 m = true)) : validM m = false := by
  cases hv : validM m with
  | false => rfl
  | true =>
    exfalso
    refine h ?_
    rw [lay_valid hv]
    obtain ⟨x, h1, h2⟩ := rdM_back hv
    rw [h1]
    exact ⟨rfl, h2⟩
theorem bytesM_len {m : Msg} (h : validM m = true) : 0 < (bytesM m).length ∧ (bytesM m).length ≤ 73 := by
  rcases valid_forms h with ⟨hk, hv, he⟩ | ⟨hk, he, hi, hn⟩
  · unfold bytesM
    rw [if_pos hk]
    have := writeS_len hv
    omega
  · unfold bytesM
    rw [if_neg (notU hk)]
    have l8 : (nb m.idx.toNat 8).length = 8 := Cu.nb_length _ _
    have l8' : (nb m.nxt.toNat 8).length = 8 := Cu.nb_length _ _
    have lh : (hl m.hash).length = 32 := Cu.hl_length _
    have ls : (hl m.sec).length = 32 := Cu.hl_length _
    repeat' split
    all_goals simp only [List.length_cons, List.length_append, l8, l8', lh, ls]; omega
/-- The length that a kind has. -/
theorem bytes_O {m : Msg} (hk : isO m.kind) : ∃ c r, bytesM m = c :: r ∧ c ≠ 1 ∧ c ≠ 2 ∧ c ≠ 3 ∧ ∀ r' : List UInt8, r'.length ≠ r.length → rdO (c :: r') = badM := by
  unfold bytesM
  rw [if_neg (notU hk)]
  have l8 : (nb m.idx.toNat 8).length = 8 := Cu.nb_length _ _
  have l8' : (nb m.nxt.toNat 8).length = 8 := Cu.nb_length _ _
  have lh : (hl m.hash).length = 32 := Cu.hl_length _
  have ls : (hl m.sec).length = 32 := Cu.hl_length _
  rcases hk with k | k | k | k
  · rw [if_pos k]
    refine ⟨_, _, rfl, by decide, by decide, by decide, fun r' h => ?_⟩
    simp only [List.length_append, l8, lh] at h
    unfold rdO
    dsimp only
    rw [if_pos rfl, if_neg (fun hh => h hh.1)]
  · rw [if_neg (by omega), if_pos k]
    refine ⟨_, _, rfl, by decide, by decide, by decide, fun r' h => ?_⟩
    simp only [List.length_append, l8, lh, ls] at h
    unfold rdO
    dsimp only
    rw [if_neg (by decide), if_pos rfl, if_neg (fun hh => h hh.1)]
  · rw [if_neg (by omega), if_neg (by omega), if_pos k]
    refine ⟨_, _, rfl, by decide, by decide, by decide, fun r' h => ?_⟩
    simp only [List.length_append, l8, l8', ls] at h
    unfold rdO
    dsimp only
    rw [if_neg (by decide), if_neg (by decide), if_pos rfl, if_neg (fun hh => h hh.1)]
  · rw [if_neg (by omega), if_neg (by omega), if_neg (by omega)]
    refine ⟨_, _, rfl, by decide, by decide, by decide, fun r' h => ?_⟩
    rw [l8] at h
    unfold rdO
    dsimp only
    rw [if_neg (by decide), if_neg (by decide), if_neg (by decide), if_pos rfl, if_neg (fun hh => h hh.1)]
theorem rdM_nil : rdM [] = badM := by unfold rdM rdL short; rw [if_neg (by simp)]; rfl
theorem rdM_cut {m : Msg} (h : validM m = true) (k : Nat) (hk : k < (bytesM m).length) : rdM ((bytesM m).take k) = badM := by
  cases k with
  | zero => rw [List.take_zero]; exact rdM_nil
  | succ k =>
    rcases valid_forms h with ⟨hu, hv, he⟩ | ⟨ho, he, hi, hn⟩
    · have e : bytesM m = bytesU m.upd := by unfold bytesM; rw [if_pos hu]
      rw [e] at hk ⊢
      have hc := back_cut hv (k + 1) hk
      obtain ⟨c, r, e2, h3⟩ := head_U hu
      unfold rdM
      rw [hc, if_neg (by unfold short; simp), e2, List.take_succ_cons]
      exact rdO_upd _ _ h3
    · obtain ⟨c, r, e, h1, h2, h3, h4⟩ := bytes_O ho
      rw [e] at hk ⊢
      rw [List.take_succ_cons, rdM_other _ _ h1 h2 h3]
      refine h4 _ ?_
      rw [List.length_take]
      simp only [List.length_cons] at hk
      omega
theorem rdM_more {m : Msg} (h : validM m = true) (r : List UInt8) (hr : 0 < r.length) : rdM (bytesM m ++ r) = badM := by
  rcases valid_forms h with ⟨hu, hv, he⟩ | ⟨ho, he, hi, hn⟩
  · have e : bytesM m = bytesU m.upd := by unfold bytesM; rw [if_pos hu]
    rw [e]
    obtain ⟨v, h1, h2⟩ := back_ok hv r
    obtain ⟨c, r', e2, h3⟩ := head_U hu
    unfold rdM
    rw [h1, if_neg (by simp only [List.length_append]; omega), e2, List.cons_append]
    exact rdO_upd _ _ h3
  · obtain ⟨c, r', e, h1, h2, h3, h4⟩ := bytes_O ho
    rw [e, List.cons_append, rdM_other _ _ h1 h2 h3]
    refine h4 _ ?_
    rw [List.length_append]
    omega
end Go.Proofs.Ytfohdolhobooiaa
