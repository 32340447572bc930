import Derived.Test.YtdffmmiegpndkaaGreatDoorWFirst
/-
  The statements' scripts (a slice of Op structs); what stands on a disk that refuses nothing.
-/
namespace Go.Proofs.YtdffmmiegpndkaaGreatDoor
open Go.RowKit Go.Maps
set_option linter.unusedVariables false
set_option linter.unusedSimpArgs false
structure WOp where
  kind : Int
  text : ByteArray
  name : ByteArray
  at_ : Int
  n : Int
  first : Int
  ad : Option Addr
  fates : List FT
  cap : Nat
def WOp.cs (o : WOp) : Array Value := #[.int .i64 o.kind, .string o.text, .string o.name, .int .i64 o.at_, .int .i64 o.n, .int .i64 o.first, .slice o.ad o.fates.length o.cap]
structure WOp.Ok (o : WOp) : Prop where
  k0 : -9223372036854775808 ≤ o.kind
  k1 : o.kind < 9223372036854775808
  name : o.name.size ≤ maxLen
  text : o.text.size ≤ 140737488355328
  a0 : -9223372036854775808 ≤ o.at_
  a1 : o.at_ < 9223372036854775808
  n0 : -9223372036854775808 ≤ o.n
  n1 : o.n < 9223372036854775808
  f0 : -9223372036854775808 ≤ o.first
  f1 : o.first < 9223372036854775808
  fates : ∀ x ∈ o.fates, x.Ok
  len : o.fates.length ≤ 9223372036854775807
structure WOp.Lie (B : Nat) (w : World) (o : WOp) : Prop where
  at_ : FatesAt w o.ad o.fates
  lt : o.fates ≠ [] → ∀ b f, o.ad = some ⟨b, f, none⟩ → b < B
theorem WOp.Lie.below {B : Nat} {w w' : World} {o : WOp} (h : o.Lie B w) (hb : Below B w w') : o.Lie B w' := ⟨h.at_.later hb h.lt, h.lt⟩
def WOpsAt (w : World) (ad : Option Addr) (os : List WOp) : Prop := os = [] ∨ ∃ b o, ad = some ⟨b, o, none⟩ ∧ b < w.heap.size ∧ ∀ i (h : i < os.length) j, j < 7 → w.cell? ⟨b, o + i * 7 + j, none⟩ = (os[i].cs)[j]?
structure WScript (B : Nat) (w : World) (ad : Option Addr) (os : List WOp) : Prop where
  at_ : WOpsAt w ad os
  lt : os ≠ [] → ∀ b o, ad = some ⟨b, o, none⟩ → b < B
  ok : ∀ o ∈ os, o.Ok
  lie : ∀ o ∈ os, o.Lie B w
  len : os.length ≤ maxLen
theorem WScript.below {B : Nat} {w w' : World} {ad : Option Addr} {os : List WOp} (h : WScript B w ad os) (hb : Below B w w') : WScript B w' ad os := by
  refine ⟨?_, h.lt, h.ok, fun o ho => (h.lie o ho).below hb, h.len⟩
  rcases h.at_ with x | ⟨b, o, ha, hlt, hc⟩
  · exact .inl x
  · refine .inr ⟨b, o, ha, Nat.lt_of_lt_of_le hlt hb.size, fun i hi j hj => ?_⟩
    rw [← hc i hi j hj]
    exact World.cell?_of_block (hb.block b (h.lt (fun e => by rw [e] at hi; simp at hi) b o ha))
/-- The cells of one step. -/
theorem WScript.cells {B : Nat} {w : World} {ad : Option Addr} {os : List WOp} (h : WScript B w ad os) (k : Nat) (hk : k < os.length) : ∃ b o, ad = some ⟨b, o, none⟩ ∧ w.cell? ⟨b, o + k * 7, none⟩ = some (.int .i64 (os[k]).kind) ∧ w.cell? ⟨b, o + k * 7 + 1, none⟩ = some (.string (os[k]).text) ∧ w.cell? ⟨b, o + k * 7 + 2, none⟩ = some (.string (os[k]).name) ∧ w.cell? ⟨b, o + k * 7 + 3, none⟩ = some (.int .i64 (os[k]).at_) ∧ w.cell? ⟨b, o + k * 7 + 4, none⟩ = some (.int .i64 (os[k]).n) ∧ w.cell? ⟨b, o + k * 7 + 5, none⟩ = some (.int .i64 (os[k]).first) ∧ w.cell? ⟨b, o + k * 7 + 6, none⟩ = some (.slice (os[k]).ad (os[k]).fates.length (os[k]).cap) := by
  rcases h.at_ with x | ⟨b, o, ha, hlt, hc⟩
  · rw [x] at hk; simp at hk
  · exact ⟨b, o, ha, hc k hk 0 (by omega), hc k hk 1 (by omega), hc k hk 2 (by omega), hc k hk 3 (by omega), hc k hk 4 (by omega), hc k hk 5 (by omega), hc k hk 6 (by omega)⟩
/-! ### a disk that nothing refuses stays so -/
theorem write_calm {A : AD} (hp : A.pow = p0) (k : Key) (a : Int) (t : List UInt8) : (A.write k a t).2.pow = p0 := by
  have h1 : A.pow.off = false := by rw [hp]; rfl
  have h2 : A.pow.count 1 = (0, p0) := by rw [hp]; exact p0_count 1
  unfold AD.write
  rw [if_neg (by rw [h1]; decide)]
  split
  · exact hp
  · rw [if_neg (by rw [h2]; simp)]
    split
    · show (A.pow.count 1).2 = p0; rw [h2]
    · show (A.pow.count 1).2 = p0; rw [h2]
theorem sync_keeps_calm {A : AD} (hp : A.pow = p0) (k : Key) : (A.sync k).2.pow = p0 := by
  have h1 : A.pow.off = false := by rw [hp]; rfl
  cases hk : fget A.fs k with
  | none =>
    unfold AD.sync
    rw [if_neg (by rw [h1]; decide), hk]
    exact hp
  | some F => rw [sync_calm hp hk]
end Go.Proofs.YtdffmmiegpndkaaGreatDoor
/-
  forged: does a fate give bytes?
-/
namespace Go.Proofs.YtdffmmiegpndkaaGreatDoor
open Go.RowKit Go.Maps
set_option linter.unusedVariables false
def forgedT (ls : List FT) : Bool := ls.any fun x => decide (x.kind = 2)
theorem forgedT_abs (ls : List FT) : forgedL (ls.map FT.abs) = forgedT ls := by
  unfold forgedL forgedT
  rw [List.any_map]
  rfl
set_option maxRecDepth 5000 in
set_option maxHeartbeats 1000000 in
theorem forged_any (w : World) (ad : Option Addr) (cap : Nat) (ls : List FT) (h : FatesAt w ad ls) (hl : ls.length ≤ 9223372036854775807) :
    Calls Tryz.prog 23 #[.slice ad ls.length cap] w fun e w' => e = .returned (.bool (forgedT ls)) ∧ w' = w := by
  have HF := hide h
  clear h
  obtain ⟨R, hR⟩ : ∃ R, forgedT ls = R := ⟨_, rfl⟩
  have HR := hide hR
  rw [hR]
  clear hR
  go_enter Tryz.func23, Tryz.ntmps23
  go_wp2
  go_loopw [3] (fun i wr => ∃ k : Nat, k ≤ ls.length ∧ i = .int .i64 (k : Int) ∧ Hid (forgedT (ls.take k) = false) ∧ wr = w) (fun i _ => ls.length - (intOf i).toNat)
  case atStart => exact ⟨0, by omega, rfl, rfl, rfl⟩
  case round =>
    obtain ⟨k, hk, rfl, HN, rfl⟩ := hrel
    by_cases hlt : k < ls.length
    · have dk : decide ((k : Int) < (ls.length : Int)) = true := decide_eq_true (by omega)
      have hk0 : (0 : Int) ≤ (k : Int) := by omega
      have hk1 : (k : Int) < (ls.length : Int) := by omega
      rcases HF.out with h | ⟨b, o, rfl, hbl, hcs⟩
      · rw [h] at hlt; exact absurd hlt (by simp)
      obtain ⟨x, hx⟩ : ∃ x, ls[k] = x := ⟨_, rfl⟩
      have f2 : wr.cell? ⟨b, o + k * 4 + 2, none⟩ = some (.int .i64 x.kind) := by have := hcs k hlt 2 (by omega); rw [hx] at this; exact this
      have hstep : ls.take (k + 1) = ls.take k ++ [x] := by rw [List.take_add_one, List.getElem?_eq_getElem hlt, hx]; rfl
      have HST := hide hstep
      have HX := hide hx
      clear hcs hx hstep
      cases h1 : (x.kind == 2) with
      | false =>
        go_wp2
        go_roundw
        case rel =>
          refine ⟨k + 1, by omega, by go_num, ?_, by first | rfl | trivial⟩
          show forgedT (ls.take (k + 1)) = false
          rw [HST.out]
          unfold forgedT
          rw [List.any_append]
          have e1 : (ls.take k).any (fun x => decide (x.kind = 2)) = false := HN.out
          rw [e1]
          simp
          simpa using h1
        case measure => simp [intOf]; omega
      | true =>
        have hRt : R = true := by
          rw [← HR.out]
          unfold forgedT
          rw [List.any_eq_true]
          exact ⟨x, by rw [← HX.out]; exact List.getElem_mem hlt, by simpa using h1⟩
        subst hRt
        go_wp2
        go_ret
        exact ⟨rfl, by first | rfl | trivial⟩
    · have hkl : k = ls.length := by omega
      have hRf : R = false := by rw [← HR.out]; have := HN.out; rw [hkl, List.take_length] at this; exact this
      subst hRf
      have dk : decide ((k : Int) < (ls.length : Int)) = false := decide_eq_false (by omega)
      go_wp2
      go_ret
      exact ⟨rfl, by first | rfl | trivial⟩
end Go.Proofs.YtdffmmiegpndkaaGreatDoor
/-
  lost: a payload of which some sectors were lost.
-/
namespace Go.Proofs.YtdffmmiegpndkaaGreatDoor
open Go.RowKit Go.Maps
set_option linter.unusedVariables false
set_option linter.unusedSimpArgs false
/-- An operation of a drawn region that is not wanted. -/
theorem skH {P : Program} {ops : Array Oper} {Q : Exit → Act → World → Prop} {md : Region.Mode} {S : World → Prop} (i : Nat) (d : Option Tmp) {oi : Oper} {fuel : Nat} {listed : Array Bool} {a : Act} {w : World} (hi : ops[i]? = some oi)
    (hS : S w) (h : wpAnyH P md ops Q S fuel (listed.setIfInBounds i true) (a.put d undef) w) (hd : oi.dst = d := by rfl)
    (hs : Region.noSelect ops = true := by kernel_rfl) (hf : Region.free md ops listed i = true := by kernel_rfl) (hr : (Region.ready md ops listed).contains i = true := by kernel_rfl)
    (hQ : ∀ c a w, Q (.panic c) (a.put oi.dst undef) w → Q (.panic c) a w := by exact fun _ _ _ h => h) (hw : Region.wanted oi (yielded ops a.tmps) = false := by rfl) : wpAnyH P md ops Q S (fuel + 1) listed a w :=
  wpAnyH_take hi hs hf hr hQ (.inr ⟨hw, rfl⟩) hS (by rw [hd]; exact h)
theorem run_make_zero (w : World) (n : Nat) (hn : n ≤ 281474976710656) : ∃ w1, (Instr.makeSlice 86 (.int .i64 (n : Int)) (.int .i64 (n : Int))).run Tryz.prog w = .ok (.slice (some ⟨w.heap.size, 0, none⟩) n n) w1 ∧ Bytes w1 0 (.slice (some ⟨w.heap.size, 0, none⟩) n n) (List.replicate n 0) ∧ Below w.heap.size w w1 := by
  have hr := run_make_row' (P := Tryz.prog) 86 5 (.int .u8 0) 1 Tryz.underlying86 info5 rfl .i64 .i64 n (by omega) (by omega) w
  refine ⟨_, hr, ?_, (Below.refl _ _).alloc (Nat.le_refl _) _⟩
  refine ⟨by simp, .inr ⟨w.heap.size, n, _, by rw [List.length_replicate], Nat.zero_le _, heap_alloc_new w _, by rw [List.length_replicate]; exact Nat.le_refl _, by unfold maxLen; omega, by simp [madeCells], ?_⟩⟩
  rw [List.length_replicate, Nat.mul_one]
  have hm : (madeCells #[.int .u8 0] n).toList = (List.replicate n (0 : UInt8)).map byteV := by
    apply List.ext_getElem?
    intro i
    unfold madeCells
    rw [Array.toList_map, List.getElem?_map, Array.toList_range, List.getElem?_map, List.getElem?_replicate]
    by_cases hi : i < n
    · rw [List.getElem?_range hi, if_pos hi]
      have e : i % (#[Value.int .u8 0] : Array Value).size = 0 := Nat.mod_one i
      simp only [Option.map_some, e]
      rfl
    · rw [List.getElem?_eq_none (by simp; omega), if_neg hi]; rfl
  rw [hm, List.take_of_length_le (by simp)]
theorem ext_between (s : ByteArray) (k e : Nat) : (s.extract k e).data.toList = (s.data.toList.drop k).take (e - k) := by
  rw [ByteArray.data_extract, Array.toList_extract, List.extract]
/-- A sector's part of the payload is as it was, or zeros. -/
theorem lost_part {s t : ByteArray} {K : Nat → Bool} (h : Lost s.data.toList t.data.toList K) {k e n : Nat} (hn : s.size = n) (hk : k < e) (he : e ≤ n) (hse : ∀ j, k ≤ j → j < e → (j + 16) / 64 = (k + 16) / 64) :
    s.extract k e = t.extract k e ∨ s.extract k e = ⟨(List.replicate (e - k) 0).toArray⟩ := by
  have hl := h.len
  rw [str_len, str_len] at hl
  by_cases hK : K ((k + 16) / 64) = true
  · left
    refine ByteArray.ext (Array.toList_inj.1 ?_)
    rw [ext_between, ext_between]
    refine List.ext_getElem? fun i => ?_
    rw [List.getElem?_take, List.getElem?_take]
    split
    · rw [List.getElem?_drop, List.getElem?_drop, h.at_ (k + i) (by rw [str_len]; omega), hse (k + i) (by omega) (by omega), if_pos hK, List.getD_eq_getElem?_getD, List.getElem?_eq_getElem (by rw [str_len]; omega)]
      rfl
    · rfl
  · right
    refine ByteArray.ext (Array.toList_inj.1 ?_)
    rw [ext_between]
    simp only
    refine List.ext_getElem? fun i => ?_
    rw [List.getElem?_take, List.getElem?_replicate]
    split
    · rw [List.getElem?_drop, h.at_ (k + i) (by rw [str_len]; omega), hse (k + i) (by omega) (by omega), if_neg hK]
    · rfl
set_option maxRecDepth 5000 in
set_option maxHeartbeats 2000000 in
theorem lost_any (w : World) (s t : ByteArray) (K : Nat → Bool) (h : Lost s.data.toList t.data.toList K) (hne : s ≠ t) (hs : s.size ≤ 65536) :
    Calls Tryz.prog 24 #[.string s, .string t] w fun e w' => e = .returned (.bool true) ∧ Below w.heap.size w w' := by
  have HL := hide h
  have hz : t.size = s.size := by have := h.len; rw [str_len, str_len] at this; exact this.symm
  obtain ⟨n, hn⟩ : ∃ n, s.size = n := ⟨_, rfl⟩
  have hnt : t.size = n := by omega
  have HN := hide hn
  have hd1 : ((n : Int) != (n : Int)) = false := by simp
  have hd2 : (s.toList == t.toList) = false := by rw [toList_beq, beq_eq_false_iff_ne]; intro e; apply hne; exact ByteArray.ext (Array.toList_inj.1 e)
  clear h
  go_enter Tryz.func24, Tryz.ntmps24
  go_wp2
  go_loopw [5] (fun i wr => ∃ k : Nat, k ≤ n ∧ i = .int .i64 (k : Int) ∧ (k = 0 ∨ k = n ∨ (k + 16) % 64 = 0) ∧ Below w.heap.size w wr) (fun i _ => n - (intOf i).toNat)
  case atStart => exact ⟨0, by omega, rfl, .inl rfl, Below.refl _ _⟩
  case round =>
    obtain ⟨k, hk, rfl, hk64, hbr⟩ := hrel
    by_cases hlt : k < n
    · have dk : decide ((k : Int) < (n : Int)) = true := decide_eq_true (by omega)
      go_upto_region 6 with fail
      obtain ⟨e, he⟩ : ∃ e, min n ((k + 16) / 64 * 64 + 48) = e := ⟨_, rfl⟩
      have hE : min (n : Int) (((k : Int) + 16) / 64 * 64 + 48) = (e : Int) := by omega
      rw [hE]
      have hke : k < e := by omega
      have hen : e ≤ n := by omega
      have hpart := lost_part HL.out HN.out hke hen (fun j h1 h2 => by omega)
      have he64 : e = 0 ∨ e = n ∨ (e + 16) % 64 = 0 := by omega
      obtain ⟨X, hX⟩ : ∃ X, s.extract k e = X := ⟨_, rfl⟩
      obtain ⟨Y, hY⟩ : ∃ Y, t.extract k e = Y := ⟨_, rfl⟩
      rw [hX, hY] at hpart
      have f1 : (0 : Int) ≤ (k : Int) := by omega
      have f2 : (k : Int) ≤ (e : Int) := by omega
      have f3 : (e : Int) ≤ (s.size : Int) := by have := HN.out; omega
      have f4 : (e : Int) ≤ (t.size : Int) := by omega
      have HX := hide hX
      have HY := hide hY
      have HE := hide he
      clear hE he hX hY hz hn
      have hbd : Below w.heap.size w wr.drew := hbr.drew
      by_cases hq : X = Y
      · subst hq
        have hd3 : (X.toList != X.toList) = false := by simp
        refine wp_region_noPanic ?_
        refine wp_region_held_drew (S := fun wx => Below w.heap.size w wx) (by kernel_rfl) hbd (fun hHeld => ?_)
        refine tK 0 (some 29) (.string s) rfl hHeld ?_
        simp only [Act.put, pA, pB, pC]
        refine tK 1 (some 30) (.int .i64 k) rfl hHeld ?_
        simp only [Act.put, pA, pB, pC]
        refine tK 2 (some 31) (.int .i64 e) rfl hHeld ?_
        simp only [Act.put, pA, pB, pC]
        refine tH 3 (some 32) (.string X) rfl (fun w hw => by have f1 := f1; have f2 := f2; have f3 := f3; have hX := HX.out; first | rfl | (go_simp; done) | (go_simp; rfl) | (go_simp; omega)) hHeld ?_
        simp only [Act.put, pA, pB, pC]
        refine tK 4 (some 33) (.string t) rfl hHeld ?_
        simp only [Act.put, pA, pB, pC]
        refine tK 5 (some 34) (.int .i64 k) rfl hHeld ?_
        simp only [Act.put, pA, pB, pC]
        refine tK 6 (some 35) (.int .i64 e) rfl hHeld ?_
        simp only [Act.put, pA, pB, pC]
        refine tH 7 (some 36) (.string X) rfl (fun w hw => by have f1 := f1; have f2 := f2; have f4 := f4; have hY := HY.out; first | rfl | (go_simp; done) | (go_simp; rfl) | (go_simp; omega)) hHeld ?_
        simp only [Act.put, pA, pB, pC]
        refine tH 8 (some 37) (.bool false) rfl (fun w hw => by have hd3 := hd3; first | rfl | (go_simp; done) | (go_simp; rfl) | (go_simp; omega)) hHeld ?_
        simp only [Act.put, pA, pB, pC]
        refine tK 9 (some 38) (.bool false) rfl hHeld ?_
        simp only [Act.put, pA, pB, pC]
        refine skH 10 (some 39) rfl hHeld ?_
        simp only [Act.put, pA, pB, pC]
        refine skH 11 (some 40) rfl hHeld ?_
        simp only [Act.put, pA, pB, pC]
        refine skH 12 (some 41) rfl hHeld ?_
        simp only [Act.put, pA, pB, pC]
        refine skH 13 (some 42) rfl hHeld ?_
        simp only [Act.put, pA, pB, pC]
        refine skH 14 (some 43) rfl hHeld ?_
        simp only [Act.put, pA, pB, pC]
        refine skH 15 (some 44) rfl hHeld ?_
        simp only [Act.put, pA, pB, pC]
        refine skH 16 (some 45) rfl hHeld ?_
        simp only [Act.put, pA, pB, pC]
        refine skH 17 (some 46) rfl hHeld ?_
        simp only [Act.put, pA, pB, pC]
        refine skH 18 (some 47) rfl hHeld ?_
        simp only [Act.put, pA, pB, pC]
        refine skH 19 (some 48) rfl hHeld ?_
        simp only [Act.put, pA, pB, pC]
        refine tK 20 (some 49) (.bool false) rfl hHeld ?_
        simp only [Act.put, pA, pB, pC]
        refine ⟨by kernel_rfl, ?_⟩
        refine NoPanic.normal ?_
        go_wp2
        go_roundw
        case rel => exact ⟨e, hen, rfl, he64, hbd⟩
        case measure => simp [intOf]; omega
      · have hx0 : X = ⟨(List.replicate (e - k) 0).toArray⟩ := hpart.resolve_left hq
        have hd3 : (X.toList != Y.toList) = true := by rw [bne_iff_ne, ByteArray.toList_eq, ByteArray.toList_eq]; intro e1; exact hq (ByteArray.ext (Array.toList_inj.1 e1))
        have hd3b : (X.toList == Y.toList) = false := by rw [beq_eq_false_iff_ne, ByteArray.toList_eq, ByteArray.toList_eq]; intro e1; exact hq (ByteArray.ext (Array.toList_inj.1 e1))
        have HX0 := hide hx0
        have hsub : (e : Int) - (k : Int) = ((e - k : Nat) : Int) := by omega
        have hd4 : (X.toList != X.toList) = false := by simp
        obtain ⟨m, hm⟩ : ∃ m, e - k = m := ⟨_, rfl⟩
        have hx1 := HX0.out
        rw [hm] at hsub hx1
        have HX1 := hide hx1
        clear hx0 hx1 HX0 hpart
        have hmz : m ≤ 65536 := by have := HN.out; omega
        have hwr : IntKind.i64.wrap (m : Int) = (m : Int) := by rw [IntKind.wrap_i64]; omega
        refine wp_region_noPanic ?_
        refine wp_region_held_drew (S := fun wx => Below w.heap.size w wx) (by kernel_rfl) hbd (fun hHeld => ?_)
        refine tK 0 (some 29) (.string s) rfl hHeld ?_
        simp only [Act.put, pA, pB, pC]
        refine tK 1 (some 30) (.int .i64 k) rfl hHeld ?_
        simp only [Act.put, pA, pB, pC]
        refine tK 2 (some 31) (.int .i64 e) rfl hHeld ?_
        simp only [Act.put, pA, pB, pC]
        refine tH 3 (some 32) (.string X) rfl (fun w hw => by have f1 := f1; have f2 := f2; have f3 := f3; have hX := HX.out; first | rfl | (go_simp; done) | (go_simp; rfl) | (go_simp; omega)) hHeld ?_
        simp only [Act.put, pA, pB, pC]
        refine tK 4 (some 33) (.string t) rfl hHeld ?_
        simp only [Act.put, pA, pB, pC]
        refine tK 5 (some 34) (.int .i64 k) rfl hHeld ?_
        simp only [Act.put, pA, pB, pC]
        refine tK 6 (some 35) (.int .i64 e) rfl hHeld ?_
        simp only [Act.put, pA, pB, pC]
        refine tH 7 (some 36) (.string Y) rfl (fun w hw => by have f1 := f1; have f2 := f2; have f4 := f4; have hY := HY.out; first | rfl | (go_simp; done) | (go_simp; rfl) | (go_simp; omega)) hHeld ?_
        simp only [Act.put, pA, pB, pC]
        refine tH 8 (some 37) (.bool true) rfl (fun w hw => by have hd3 := hd3; have hd3b := hd3b; first | rfl | (go_simp; done) | (go_simp; rfl) | (go_simp; omega)) hHeld ?_
        simp only [Act.put, pA, pB, pC]
        refine tK 9 (some 38) (.bool true) rfl hHeld ?_
        simp only [Act.put, pA, pB, pC]
        refine tK 10 (some 39) (.string s) rfl hHeld ?_
        simp only [Act.put, pA, pB, pC]
        refine tK 11 (some 40) (.int .i64 k) rfl hHeld ?_
        simp only [Act.put, pA, pB, pC]
        refine tK 12 (some 41) (.int .i64 e) rfl hHeld ?_
        simp only [Act.put, pA, pB, pC]
        refine tH 13 (some 42) (.string X) rfl (fun w hw => by have f1 := f1; have f2 := f2; have f3 := f3; have hX := HX.out; first | rfl | (go_simp; done) | (go_simp; rfl) | (go_simp; omega)) hHeld ?_
        simp only [Act.put, pA, pB, pC]
        refine tK 14 (some 43) (.int .i64 e) rfl hHeld ?_
        simp only [Act.put, pA, pB, pC]
        refine tK 15 (some 44) (.int .i64 k) rfl hHeld ?_
        simp only [Act.put, pA, pB, pC]
        refine tH 16 (some 45) (.int .i64 (m : Int)) rfl (fun w hw => by have hsub := hsub; have hwr := hwr; first | rfl | (go_simp; done) | (go_simp; rfl) | (go_simp; omega)) hHeld ?_
        simp only [Act.put, pA, pB, pC]
        refine rdH 17 rfl (fun K hK => ?_)
        obtain ⟨w1, hmk, hby, hb1⟩ := run_make_zero wr.drew m (by omega)
        refine wpRun (v := .slice (some ⟨wr.drew.heap.size, 0, none⟩) m m) (w' := w1) (by simp only [execOp]; go_simp) ?_
        simp only [Act.put, pA, pB, pC]
        refine hK.out _ _ (hbd.trans (hb1.mono hbd.size)) (fun hH => ?_)
        clear hK K hHeld
        have hHeld := hH
        clear hH
        have hcv := run_conv_piece w1 (o := 0) (n := m) hby ⟨some ⟨wr.drew.heap.size, 0, none⟩, m, rfl, Nat.le_refl _, fun _ => ⟨_, rfl, rfl⟩⟩ (by simp)
        rw [List.drop_zero, List.take_of_length_le (by simp), ← HX1.out] at hcv
        refine rdH 18 rfl (fun K hK => ?_)
        refine wpRun (v := .string X) (w' := w1) (by have hc2 : (convert 86 9 (.slice (some ⟨wr.heap.size, 0, none⟩) m m)).run Tryz.prog w1 = .ok (.string X) w1 := hcv; simp only [execOp]; go_simp) ?_
        simp only [Act.put, pA, pB, pC]
        refine hK.out _ _ hHeld (fun hH => ?_)
        clear hK K hHeld
        have hHeld := hH
        clear hH
        refine tH 19 (some 48) (.bool false) rfl (fun w hw => by have hd4 := hd4; first | rfl | (go_simp; done) | (go_simp; rfl) | (go_simp; omega)) hHeld ?_
        simp only [Act.put, pA, pB, pC]
        refine tK 20 (some 49) (.bool false) rfl hHeld ?_
        simp only [Act.put, pA, pB, pC]
        refine ⟨by kernel_rfl, ?_⟩
        refine NoPanic.normal ?_
        go_wp2
        go_roundw
        case rel => exact ⟨e, hen, rfl, he64, hHeld⟩
        case measure => simp [intOf]; omega
    · have dk : decide ((k : Int) < (n : Int)) = false := decide_eq_false (by omega)
      go_wp2
      go_ret
      exact ⟨rfl, hbr⟩
end Go.Proofs.YtdffmmiegpndkaaGreatDoor
