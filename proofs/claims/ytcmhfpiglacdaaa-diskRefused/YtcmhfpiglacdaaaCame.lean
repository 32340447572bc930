/-
  The statements' own helpers: fate, came; what may come of a crash, the mathematics.
-/
import Derived.Test.YtcmhfpiglacdaaaKeeps
namespace Go.Proofs.Ytcmhfpiglacdaaa
open Go.RowKit Go.Maps Go.WideMaps
set_option linter.unusedVariables false
set_option linter.unusedSimpArgs false
/-- A sector's fate by the words: its kind, its bytes. -/
def kindOf (f : Option FT) : Int × ByteArray := match f with
  | none => (0, ⟨#[]⟩)
  | some x => if x.kind < 0 ∨ x.kind > 2 then (0, ⟨#[]⟩) else (x.kind, x.bytes)
theorem firstF_take_none {ls : List FT} {k : Key} {s : Int} {j : Nat} (h : firstF (ls.take j) k s = none) (hj : j < ls.length) (hx : ¬ (ls[j].file.data.toList = k ∧ ls[j].sector = s)) : firstF (ls.take (j + 1)) k s = none := by
  rw [take_snoc ls j hj, firstF_snoc, h]
  simp only [Option.none_or]
  rw [if_neg hx]
theorem firstF_at {ls : List FT} {k : Key} {s : Int} {j : Nat} (h : firstF (ls.take j) k s = none) (hj : j < ls.length) (hx : ls[j].file.data.toList = k ∧ ls[j].sector = s) : firstF ls k s = some ls[j] := by
  have e : ls = ls.take j ++ ls[j] :: ls.drop (j + 1) := by rw [← List.drop_eq_getElem_cons hj, List.take_append_drop]
  obtain ⟨y, hy⟩ : ∃ y, ls[j] = y := ⟨_, rfl⟩
  rw [hy] at hx e ⊢
  unfold firstF at h ⊢
  have e2 := congrArg (List.find? (fun x : FT => x.file.data.toList == k && decide (x.sector = s))) e
  rw [e2, List.find?_append, h]
  simp [hx.1, hx.2]
set_option maxRecDepth 5000 in
set_option maxHeartbeats 1000000 in
theorem fate_any (w : World) (ad : Option Addr) (cap : Nat) (ls : List FT) (h : FatesAt w ad ls) (hl : ls.length ≤ 9223372036854775807) (n : ByteArray) (s : Int) :
    Calls Try.prog 25 #[.slice ad ls.length cap, .string n, .int .i64 s] w fun e w' => e = .returned (.tuple #[.int .i64 (kindOf (firstF ls n.data.toList s)).1, .string (kindOf (firstF ls n.data.toList s)).2]) ∧ Below w.heap.size w w' := by
  have HF := hide h
  clear h
  go_enter Try.func25, Try.ntmps25
  go_wp2
  go_loopw [8] (fun i wr => ∃ k : Nat, k ≤ ls.length ∧ i = .int .i64 (k : Int) ∧ firstF (ls.take k) n.data.toList s = none ∧ wr = w) (fun i _ => ls.length - (intOf i).toNat)
  case atStart => exact ⟨0, by omega, rfl, rfl, rfl⟩
  case round =>
    obtain ⟨k, hk, rfl, hno, rfl⟩ := hrel
    have HN := hide hno
    clear hno
    by_cases hlt : k < ls.length
    · have dk : decide ((k : Int) < (ls.length : Int)) = true := decide_eq_true (by omega)
      have hk0 : (0 : Int) ≤ (k : Int) := by omega
      have hk1 : (k : Int) < (ls.length : Int) := by omega
      rcases HF.out with h | ⟨b, o, rfl, hbl, hcs⟩
      · rw [h] at hlt; exact absurd hlt (by simp)
      obtain ⟨x, hx⟩ : ∃ x, ls[k] = x := ⟨_, rfl⟩
      have hcell : ∀ j, j < 4 → wr.cell? ⟨b, o + k * 4 + j, none⟩ = (x.cs)[j]? := fun j hj => by rw [hcs k hlt j hj, hx]
      have f0 : wr.cell? ⟨b, o + k * 4, none⟩ = some (.string x.file) := hcell 0 (by omega)
      have f1 : wr.cell? ⟨b, o + k * 4 + 1, none⟩ = some (.int .i64 x.sector) := hcell 1 (by omega)
      have f2 : wr.cell? ⟨b, o + k * 4 + 2, none⟩ = some (.int .i64 x.kind) := hcell 2 (by omega)
      have f3 : wr.cell? ⟨b, o + k * 4 + 3, none⟩ = some (.string x.bytes) := hcell 3 (by omega)
      cases h1 : (x.file.data.toList == n.data.toList) with
      | false =>
        have hb1 : (x.file.toList == n.toList) = false := by rw [toList_beq]; exact h1
        have HC := hide (firstF_take_none HN.out hlt (by rw [hx]; exact fun e => beq_eq_false_iff_ne.1 h1 e.1))
        clear h1 hcs hx hcell
        go_wp2
        go_roundw
        case rel => exact ⟨k + 1, by omega, by go_num, HC.out, by first | rfl | trivial⟩
        case measure => simp [intOf]; omega
      | true =>
        have hb1 : (x.file.toList == n.toList) = true := by rw [toList_beq]; exact h1
        cases h2 : (x.sector == s) with
        | false =>
          have HC := hide (firstF_take_none HN.out hlt (by rw [hx]; exact fun e => beq_eq_false_iff_ne.1 h2 e.2))
          clear h1 hcs hx hcell
          go_wp2
          go_roundw
          case rel => exact ⟨k + 1, by omega, by go_num, HC.out, by first | rfl | trivial⟩
          case measure => simp [intOf]; omega
        | true =>
          have hC := firstF_at HN.out hlt (by rw [hx]; exact ⟨beq_iff_eq.1 h1, beq_iff_eq.1 h2⟩)
          rw [hx] at hC
          by_cases hk2 : x.kind < 0
          · have dk2 : decide (x.kind < 0) = true := decide_eq_true hk2
            have HC : Hid (kindOf (firstF ls n.data.toList s) = (0, ⟨#[]⟩)) := by show _ = _; rw [hC]; unfold kindOf; simp only; rw [if_pos (.inl hk2)]
            clear h1 hcs hx hcell hC hk2
            go_wp2
            go_ret2
            exact ⟨by rw [HC.out]; rfl, Below.refl _ _⟩
          · have dk2 : decide (x.kind < 0) = false := decide_eq_false hk2
            by_cases hk3 : 2 < x.kind
            · have dk3 : decide (2 < x.kind) = true := decide_eq_true hk3
              have HC : Hid (kindOf (firstF ls n.data.toList s) = (0, ⟨#[]⟩)) := by show _ = _; rw [hC]; unfold kindOf; simp only; rw [if_pos (.inr hk3)]
              clear h1 hcs hx hcell hC hk2 hk3
              go_wp2
              go_ret2
              exact ⟨by rw [HC.out]; rfl, Below.refl _ _⟩
            · have dk3 : decide (2 < x.kind) = false := decide_eq_false hk3
              have HC : Hid (kindOf (firstF ls n.data.toList s) = (x.kind, x.bytes)) := by show _ = _; rw [hC]; unfold kindOf; simp only; rw [if_neg (by omega)]
              clear h1 hcs hx hcell hC hk2 hk3
              go_wp2
              go_quiet (fail)
              go_wp2
              go_ret2
              exact ⟨by rw [HC.out]; rfl, drewN_below (Below.refl _ _) _⟩
    · have hkl : k = ls.length := by omega
      subst hkl
      have dk : decide ((ls.length : Int) < (ls.length : Int)) = false := decide_eq_false (by omega)
      have HC := HN.out
      rw [List.take_length] at HC
      have HD : Hid (kindOf (firstF ls n.data.toList s) = (0, ⟨#[]⟩)) := by show _ = _; rw [HC]; rfl
      clear HC
      go_wp2
      go_ret2
      exact ⟨by rw [HD.out]; rfl, Below.refl _ _⟩
theorem byteAt_len {s : ByteArray} {i : Nat} (h : ¬ i < s.size) : byteAt s.data.toList i = 0 := by
  unfold byteAt
  rw [List.getD_eq_getElem?_getD, List.getElem?_eq_none (by rw [str_len]; omega)]; rfl
/-- What came holds. -/
structure CameOk (was now lost : ByteArray) (s : Nat) (dirty : Bool) (kind : Int) (given : ByteArray) : Prop where
  k : kind = 0 ∨ kind = 1 ∨ kind = 2
  h1 : ∀ i, 64 * s ≤ i → i < 64 * s + 64 → i < now.size → dirty = false ∨ kind = 1 → i < was.size ∧ byteAt now.data.toList i = byteAt was.data.toList i
  h2 : ∀ i, 64 * s ≤ i → i < 64 * s + 64 → i < now.size → dirty = true → kind = 2 → byteAt now.data.toList i = byteAt given.data.toList (i - 64 * s)
  h3 : ∀ i, 64 * s ≤ i → i < 64 * s + 64 → i < now.size → dirty = true → kind = 0 → byteAt now.data.toList i = byteAt lost.data.toList i
set_option maxRecDepth 5000 in
set_option maxHeartbeats 2000000 in
theorem came_any (w : World) (was now lost : ByteArray) (s : Nat) (dirty : Bool) (kind : Int) (given : ByteArray) (hs : s ≤ 16384) (hz1 : was.size ≤ maxLen) (hz2 : now.size ≤ maxLen) (hz3 : lost.size ≤ maxLen) (hok : CameOk was now lost s dirty kind given) :
    Calls Try.prog 27 #[.string was, .string now, .string lost, .int .i64 (s : Int), .bool dirty, .int .i64 kind, .string given] w fun e w' => e = .returned (.bool true) ∧ w' = w := by
  have HO := hide hok
  unfold maxLen at hz1 hz2 hz3
  obtain ⟨a1, ha1⟩ : ∃ n, was.size = n := ⟨_, rfl⟩
  obtain ⟨a2, ha2⟩ : ∃ n, now.size = n := ⟨_, rfl⟩
  obtain ⟨a3, ha3⟩ : ∃ n, lost.size = n := ⟨_, rfl⟩
  obtain ⟨a4, ha4⟩ : ∃ n, given.size = n := ⟨_, rfl⟩
  clear hok
  go_enter Try.func27, Try.ntmps27
  go_wp2
  go_loopw [15] (fun v wr => ∃ i : Nat, 64 * s ≤ i ∧ i ≤ 64 * s + 64 ∧ v = .int .i64 (i : Int) ∧ wr = w) (fun v _ => 64 * s + 64 - (intOf v).toNat)
  case atStart => exact ⟨64 * s, by omega, by omega, by go_num, rfl⟩
  case round =>
    obtain ⟨i, hi0, hi1, rfl, rfl⟩ := hrel
    by_cases hlt : i < 64 * s + 64
    · have dk : decide ((i : Int) < 64 * (s : Int) + 64) = true := decide_eq_true (by omega)
      by_cases hln : i < now.size
      · have dn : decide ((i : Int) < (a2 : Int)) = true := decide_eq_true (by omega)
        obtain ⟨c, hc⟩ : ∃ c, byteAt now.data.toList i = c := ⟨_, rfl⟩
        have hx : ∀ w' : World, (Instr.index 9 (.string now) (.int .i64 (i : Int))).run Try.prog w' = .ok (.int .u8 (c.toNat : Int)) w' := fun w' => run_index_str w' now .i64 i _ (by rw [← hc]; exact str_get now i hln)
        have HC := hide hc
        have wasArm : dirty = false ∨ kind = 1 → i < was.size ∧ ∀ w' : World, (Instr.index 9 (.string was) (.int .i64 (i : Int))).run Try.prog w' = .ok (.int .u8 (c.toNat : Int)) w' := fun hq => by
          obtain ⟨h1, h2⟩ := HO.out.h1 i hi0 hlt hln hq
          exact ⟨h1, fun w' => run_index_str w' was .i64 i _ (by rw [← hc, h2]; exact str_get was i h1)⟩
        cases hd : dirty with
        | false =>
          obtain ⟨h1, hy⟩ := wasArm (.inl hd)
          have dy : ¬ a1 ≤ i := by omega
          clear wasArm hc h1
          go_wp2
          go_roundw
          case rel => exact ⟨i + 1, by omega, by omega, by go_num, by first | rfl | trivial⟩
          case measure => simp [intOf]; omega
        | true =>
          rcases HO.out.k with hk | hk | hk
          · have d1 : (kind == 1) = false := by rw [hk]; rfl
            have d2 : (kind == 2) = false := by rw [hk]; rfl
            have d0 : (kind == 0) = true := by rw [hk]; rfl
            have h3 := HO.out.h3 i hi0 hlt hln hd hk
            rw [hc] at h3
            by_cases hls : i < lost.size
            · have dl : decide ((i : Int) < (a3 : Int)) = true := decide_eq_true (by omega)
              have hy : ∀ w' : World, (Instr.index 9 (.string lost) (.int .i64 (i : Int))).run Try.prog w' = .ok (.int .u8 (c.toNat : Int)) w' := fun w' => run_index_str w' lost .i64 i _ (by rw [h3]; exact str_get lost i hls)
              clear wasArm hc h3 hk
              go_wp2
              go_roundw
              case rel => exact ⟨i + 1, by omega, by omega, by go_num, by first | rfl | trivial⟩
              case measure => simp [intOf]; omega
            · have dl : decide ((i : Int) < (a3 : Int)) = false := decide_eq_false (by omega)
              rw [byteAt_len hls] at h3
              subst h3
              have hx' : ∀ w' : World, (Instr.index 9 (.string now) (.int .i64 (i : Int))).run Try.prog w' = .ok (.int .u8 0) w' := hx
              clear wasArm hc hk hx
              go_wp2
              go_roundw
              case rel => exact ⟨i + 1, by omega, by omega, by go_num, by first | rfl | trivial⟩
              case measure => simp [intOf]; omega
          · have d1 : (kind == 1) = true := by rw [hk]; rfl
            obtain ⟨h1, hy⟩ := wasArm (.inr hk)
            have dy : ¬ a1 ≤ i := by omega
            clear wasArm hc h1 hk
            go_wp2
            go_roundw
            case rel => exact ⟨i + 1, by omega, by omega, by go_num, by first | rfl | trivial⟩
            case measure => simp [intOf]; omega
          · have d1 : (kind == 1) = false := by rw [hk]; rfl
            have d2 : (kind == 2) = true := by rw [hk]; rfl
            have d0 : (kind == 0) = false := by rw [hk]; rfl
            have h2 := HO.out.h2 i hi0 hlt hln hd hk
            rw [hc] at h2
            have ei : (i : Int) - 64 * (s : Int) = ((i - 64 * s : Nat) : Int) := by omega
            by_cases hls : i - 64 * s < given.size
            · have dl : decide ((i : Int) - 64 * (s : Int) < (a4 : Int)) = true := decide_eq_true (by omega)
              have hy : ∀ w' : World, (Instr.index 9 (.string given) (.int .i64 ((i : Int) - 64 * (s : Int)))).run Try.prog w' = .ok (.int .u8 (c.toNat : Int)) w' := fun w' => by rw [ei]; exact run_index_str w' given .i64 (i - 64 * s) _ (by rw [h2]; exact str_get given _ hls)
              clear wasArm hc h2 hk ei
              go_wp2
              go_roundw
              case rel => exact ⟨i + 1, by omega, by omega, by go_num, by first | rfl | trivial⟩
              case measure => simp [intOf]; omega
            · have dl : decide ((i : Int) - 64 * (s : Int) < (a4 : Int)) = false := decide_eq_false (by omega)
              rw [byteAt_len hls] at h2
              subst h2
              have hx' : ∀ w' : World, (Instr.index 9 (.string now) (.int .i64 (i : Int))).run Try.prog w' = .ok (.int .u8 0) w' := hx
              clear wasArm hc hk hx ei
              go_wp2
              go_roundw
              case rel => exact ⟨i + 1, by omega, by omega, by go_num, by first | rfl | trivial⟩
              case measure => simp [intOf]; omega
      · have dn : decide ((i : Int) < (a2 : Int)) = false := decide_eq_false (by omega)
        go_wp2
        go_ret
        exact ⟨rfl, rfl⟩
    · have dk : decide ((i : Int) < 64 * (s : Int) + 64) = false := decide_eq_false (by omega)
      go_wp2
      go_ret
      exact ⟨rfl, rfl⟩
/-! ### what may come of a crash -/
theorem left_lost (F : AF) (k : Key) : F.left (fateOf [] k) = F.safe := by
  have hl : F.len (fateOf [] k) = F.safe.length := by
    unfold AF.len
    exact foldl_same _ _ _ (fun s _ => by simp [fateOf, hits])
  unfold AF.left
  rw [hl]
  apply List.ext_getElem?
  intro i
  rw [List.getElem?_map]
  by_cases hi : i < F.safe.length
  · rw [List.getElem?_range hi, List.getElem?_eq_getElem hi]
    simp [AF.after, fateOf, hi]
  · rw [List.getElem?_eq_none (by simp; omega), List.getElem?_eq_none (by omega)]; rfl
/-- Where the file ends, as far as j sectors tell. -/
def endAt (F : AF) (ft : Nat → Option AFate) (j : Nat) : Nat := (List.range j).foldl (fun m s => if F.dirty s && hits (ft s) then max m (min (64 * s + 64) F.seen.length) else m) F.safe.length
theorem endAt_succ (F : AF) (ft : Nat → Option AFate) (j : Nat) : endAt F ft (j + 1) = if F.dirty j && hits (ft j) then max (endAt F ft j) (min (64 * j + 64) F.seen.length) else endAt F ft j := by
  unfold endAt
  rw [List.range_succ, List.foldl_append]
  rfl
theorem endAt_all (F : AF) (ft : Nat → Option AFate) : endAt F ft F.nsec = F.len ft := rfl
theorem endAt_le {F : AF} (h : F.Ok) (ft : Nat → Option AFate) : ∀ j, endAt F ft j ≤ F.seen.length
  | 0 => h.le
  | j + 1 => by
    rw [endAt_succ]
    have := endAt_le h ft j
    split <;> omega
theorem kindOf_bad {x : FT} (h : x.kind < 0 ∨ x.kind > 2) : kindOf (some x) = (0, ⟨#[]⟩) := by unfold kindOf; simp only; rw [if_pos h]
theorem kindOf_good {x : FT} (h : ¬ (x.kind < 0 ∨ x.kind > 2)) : kindOf (some x) = (x.kind, x.bytes) := by unfold kindOf; simp only; rw [if_neg h]
theorem kind_hits (ls : List FT) (k : Key) (s : Nat) : hits (ftOf ls k s) = true ↔ (kindOf (firstF ls k (s : Int))).1 ≠ 0 := by
  unfold ftOf
  rw [firstF_abs]
  cases hq : firstF ls k (s : Int) with
  | none => simp [hits, kindOf]
  | some x =>
    simp only [Option.map_some, hits, FT.abs, decide_eq_true_eq]
    by_cases h : x.kind < 0 ∨ x.kind > 2
    · rw [kindOf_bad h]
      simp only [ne_eq, not_true_eq_false, iff_false]
      omega
    · rw [kindOf_good h]
      simp only
      omega
theorem kind_three (f : Option FT) : (kindOf f).1 = 0 ∨ (kindOf f).1 = 1 ∨ (kindOf f).1 = 2 := by
  unfold kindOf
  split
  · exact .inl rfl
  · split
    · exact .inl rfl
    · simp only; omega
theorem getD_byteAt (l : List UInt8) (i : Nat) : l.getD i 0 = byteAt l i := rfl
theorem left_at {F : AF} {ft : Nat → Option AFate} {i : Nat} (h : i < F.len ft) : byteAt (F.left ft) i = F.after ft i := by
  unfold byteAt AF.left
  rw [List.getD_eq_getElem?_getD, List.getElem?_map, List.getElem?_range h]
  rfl
theorem seen_safe {F : AF} (h : F.Ok) {i : Nat} (hi : i < F.seen.length) (hd : F.dirty (i / 64) = false) : byteAt F.seen i = byteAt F.safe i := by
  obtain ⟨_, h2⟩ := h.clean i hi hd
  unfold byteAt
  rw [List.getD_eq_getElem?_getD, List.getD_eq_getElem?_getD, h2]
/-- Each sector is as it was seen, as it is where all is lost, or what its fate gave. -/
theorem came_ok {F : AF} (h : F.Ok) (ls : List FT) (k : Key) (s : Nat) (was now lost : ByteArray) (hw : was.data.toList = F.seen) (hn : now.data.toList = F.left (ftOf ls k)) (hl : lost.data.toList = F.safe) :
    CameOk was now lost s (F.dirty s) (kindOf (firstF ls k (s : Int))).1 (kindOf (firstF ls k (s : Int))).2 := by
  have nl : now.size = F.len (ftOf ls k) := by rw [← str_len, hn, AF.left_length]
  have wl : was.size = F.seen.length := by rw [← str_len, hw]
  have hle := AF.len_le h (ftOf ls k)
  have hfa : ∀ i, i / 64 = s → F.after (ftOf ls k) i = if F.dirty s = true then (if (kindOf (firstF ls k (s : Int))).1 = 1 then byteAt F.seen i else if (kindOf (firstF ls k (s : Int))).1 = 2 then byteAt (kindOf (firstF ls k (s : Int))).2.data.toList (i % 64) else byteAt F.safe i) else byteAt F.safe i := fun i hi => by
    unfold AF.after
    rw [hi]
    cases hd : F.dirty s with
    | false => rfl
    | true =>
      simp only [if_true]
      unfold ftOf
      rw [firstF_abs]
      cases hq : firstF ls k (s : Int) with
      | none =>
        show F.safe.getD i 0 = _
        rw [if_neg (by simp [kindOf]), if_neg (by simp [kindOf])]
        rfl
      | some x =>
        simp only [Option.map_some, FT.abs]
        by_cases hk : x.kind < 0 ∨ x.kind > 2
        · rw [kindOf_bad hk]
          simp only
          rw [if_neg (by omega), if_neg (by omega), if_neg (by omega), if_neg (by omega)]
          rfl
        · rw [kindOf_good hk]
          rfl
  refine ⟨kind_three _, fun i h0 h1 h2 hq => ?_, fun i h0 h1 h2 hd hk => ?_, fun i h0 h1 h2 hd hk => ?_⟩
  · refine ⟨by omega, ?_⟩
    rw [hn, hw, left_at (by omega), hfa i (by omega)]
    rcases hq with hq | hq
    · rw [hq, if_neg (by simp)]
      exact (seen_safe h (by omega) (by rw [show i / 64 = s by omega]; exact hq)).symm
    · cases hd : F.dirty s with
      | true => rw [if_pos rfl, if_pos hq]
      | false =>
        rw [if_neg (by simp)]
        exact (seen_safe h (by omega) (by rw [show i / 64 = s by omega]; exact hd)).symm
  · rw [hn, left_at (by omega), hfa i (by omega), if_pos hd, if_neg (by omega), if_pos hk]
    congr 1
    omega
  · rw [hn, hl, left_at (by omega), hfa i (by omega), if_pos hd, if_neg (by omega), if_neg (by omega)]
theorem clean_of {F : AF} (h : F.Ok) (hd : F.dirtyL = []) : Clean F F.seen := by
  have hf : ∀ s, F.dirty s = false := fun s => by
    cases hq : F.dirty s with
    | false => rfl
    | true => have := (AF.mem_dirtyL h s).2 hq; rw [hd] at this; simp at this
  refine ⟨rfl, ?_, hf⟩
  apply List.ext_getElem?
  intro i
  by_cases hi : i < F.seen.length
  · exact (h.clean i hi (hf _)).2.symm
  · have := h.le
    rw [List.getElem?_eq_none (by omega), List.getElem?_eq_none (by omega)]
/-- The disk behind a crash, on again. -/
theorem back_fs {A : AD} (ho : A.pow.off = false) (l : List AFate) : (A.crash l).on.fs = A.fs.map (fun p => (p.1, p.2.crash (fateOf l p.1))) := by
  have e : A.crash l = ⟨A.cap, A.fs.map (fun p => (p.1, p.2.crash (fateOf l p.1))), ⟨true, false, 0, 0, 0⟩⟩ := by unfold AD.crash; rw [if_neg (by rw [ho]; simp)]
  rw [e]; rfl
theorem back_get {A : AD} (ho : A.pow.off = false) (l : List AFate) (k : Key) : fget (A.crash l).on.fs k = (fget A.fs k).map (·.crash (fateOf l k)) := by
  rw [back_fs ho]
  exact fget_map (fun k F => F.crash (fateOf l k)) k A.fs
theorem back_list {A : AD} (ho : A.pow.off = false) (l : List AFate) : (A.crash l).on.list = A.list := by
  unfold AD.list
  rw [if_neg (by rw [on_off]; simp), if_neg (by rw [ho]; simp), back_fs ho]
  unfold fkeys
  rw [List.map_map]
  rfl
theorem all_get {A : AD} {k : Key} {F : AF} (ho : A.pow.off = false) (hok : A.Ok) (h : fget A.fs k = some F) : A.all k = F.seen := by
  have hm := (hok.files _ (fget_mem h)).most
  simp only at hm
  unfold AD.all AD.read
  rw [if_neg (by rw [ho]; simp), h]
  simp only
  rw [if_neg (by decide)]
  simp only [Int.toNat_zero, List.drop_zero]
  exact List.take_of_length_le hm
theorem dirty_get {A : AD} {k : Key} {F : AF} (ho : A.pow.off = false) (h : fget A.fs k = some F) : A.dirtyI k = dirtyI F := by
  unfold AD.dirtyI AD.dirty
  rw [if_neg (by rw [ho]; simp), h]
  rfl
theorem dirtyI_has {F : AF} (h : F.Ok) (s : Nat) : (dirtyI F).contains (s : Int) = F.dirty s := by
  unfold dirtyI
  rw [Bool.eq_iff_iff, List.contains_iff_mem]
  constructor
  · intro hm
    obtain ⟨x, hx, e⟩ := List.mem_map.1 hm
    have : x = s := by omega
    subst this
    exact (AF.mem_dirtyL h x).1 hx
  · intro hd
    exact List.mem_map.2 ⟨s, (AF.mem_dirtyL h s).2 hd, rfl⟩
end Go.Proofs.Ytcmhfpiglacdaaa
