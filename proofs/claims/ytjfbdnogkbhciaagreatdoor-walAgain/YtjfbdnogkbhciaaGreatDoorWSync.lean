import Derived.Test.YtjfbdnogkbhciaaGreatDoorWName
import Derived.Test.YtjfbdnogkbhciaaGreatDoorShelfS
import Derived.Laws.Concat
/-
  A SEGMENT's FILE NAME, and the number that a file's name tells.
-/
namespace Go.Proofs.YtjfbdnogkbhciaaGreatDoor
open Go.RowKit Go.Maps
set_option linter.unusedVariables false
def fileL (k : Key) (n : Int) : Key := k ++ 46 :: Lib.itoa n
def fileB (b : ByteArray) (n : Int) : ByteArray := ⟨(fileL b.data.toList n).toArray⟩
/-- What the library's tables and errors hold, in blocks below B. -/
structure Env (B : Nat) (w : World) : Prop where
  tab : Lib.TabIs Tryz.prog w "internal/strconv.uint64pow10" .u64 Lib.pow10Tab
  syn : ∃ tp p, w.var? Tryz.prog "strconv.ErrSyntax" = some #[.iface tp p]
  rng : ∃ tp p, w.var? Tryz.prog "strconv.ErrRange" = some #[.iface tp p]
  low : Tryz.prog.globals.size ≤ B
theorem var_below {B : Nat} {w w' : World} {n : String} {g : Nat} (hg : Tryz.prog.globalNamed n = some g) (hB : g < B) (hb : Below B w w') : w'.var? Tryz.prog n = w.var? Tryz.prog n := by
  unfold World.var?
  rw [hg]
  show (match w'.heap[g]? with | some (.cells cs _ _) => some cs | _ => none) = (match w.heap[g]? with | some (.cells cs _ _) => some cs | _ => none)
  rw [hb.block g hB]
theorem gPow : Tryz.prog.globalNamed "internal/strconv.uint64pow10" = some 0 := by kernel_rfl
theorem gSyn : Tryz.prog.globalNamed "strconv.ErrSyntax" = some 1 := by kernel_rfl
theorem gRng : Tryz.prog.globalNamed "strconv.ErrRange" = some 2 := by kernel_rfl
theorem gSize : Tryz.prog.globals.size = 6 := by kernel_rfl
theorem Env.below {B : Nat} {w w' : World} (h : Env B w) (hb : Below B w w') : Env B w' := by
  have hl := h.low
  rw [gSize] at hl
  refine ⟨?_, ?_, ?_, h.low⟩
  · unfold Lib.TabIs; rw [var_below gPow (by omega) hb]; exact h.tab
  · rw [var_below gSyn (by omega) hb]; exact h.syn
  · rw [var_below gRng (by omega) hb]; exact h.rng
theorem grow_below (w : World) (k : Nat) (os : Array Obj) : Below w.heap.size w (Sort.grow (w.drewN k) os) := by
  refine ⟨rfl, rfl, rfl, ?_, fun b hb => ?_⟩
  · show w.heap.size ≤ (w.heap ++ os).size
    simp
  · show (w.heap ++ os)[b]? = w.heap[b]?
    rw [Array.getElem?_append_left hb]
theorem itoa_any (n : Int) (h0 : -9223372036854775808 ≤ n) (h1 : n ≤ 9223372036854775807) {B : Nat} (w : World) (he : Env B w) :
    Calls Tryz.prog 90 #[.int .i64 n] w fun e w' => e = .returned (.string ⟨(Lib.itoa n).toArray⟩) ∧ Below w.heap.size w w' :=
  (Any.strconv_Itoa Tryz.laysItoa n h0 h1 w he.tab).mono (fun e w' ⟨he, k, os, hw⟩ => ⟨he, by rw [hw]; exact grow_below w k os⟩)
theorem decDigits_length : ∀ n k : Nat, n < 10 ^ (k + 1) → (Lib.decDigits n).length ≤ k + 1
  | n, 0, h => by
    rw [Lib.decDigits]
    rw [dif_pos (by omega)]
    simp
  | n, k + 1, h => by
    rw [Lib.decDigits]
    split
    · simp
    · rw [List.length_append, List.length_singleton]
      have := decDigits_length (n / 10) k (by rw [Nat.pow_succ] at h; omega)
      omega
theorem itoa_length {n : Int} (h0 : 0 ≤ n) (h1 : n ≤ 10000000) : (Lib.itoa n).length ≤ 8 := by
  unfold Lib.itoa
  rw [if_neg (by omega)]
  exact decDigits_length n.toNat 7 (by omega)
theorem fileB_size {b : ByteArray} {n : Int} (h : b.size ≤ 24) (h0 : 0 ≤ n) (h1 : n ≤ 10000000) : (fileB b n).size ≤ 33 := by
  show (fileL b.data.toList n).toArray.size ≤ 33
  have := itoa_length h0 h1
  unfold fileL
  rw [List.size_toArray, List.length_append, List.length_cons, str_len]
  omega
theorem fileB_list (b : ByteArray) (n : Int) : (fileB b n).data.toList = fileL b.data.toList n := rfl
set_option maxRecDepth 100000 in
set_option maxHeartbeats 2000000 in
theorem file_any {B : Nat} (l : Nat) (n z f : Int) (nm : ByteArray) (w : World) (hc : w.cell? ⟨l, 1, none⟩ = some (.string nm)) (hl : l < w.heap.size) (hnm : nm.size ≤ 24) (h0 : 0 ≤ n) (h1 : n ≤ 10000000) (he : Env B w) (hB : B ≤ w.heap.size) :
    Calls Tryz.prog 70 #[.pointer (some ⟨l, 0, none⟩), .agg #[.int .i64 n, .int .i64 z, .int .i64 f]] w fun e w' => e = .returned (.string (fileB nm n)) ∧ Below w.heap.size w w' := by
  have hln := itoa_length h0 h1
  have HX : Hid (nm ++ ⟨#[46]⟩ ++ ⟨(Lib.itoa n).toArray⟩ = fileB nm n) := by
    show _ = _
    unfold fileB fileL
    have e : nm = ⟨nm.data.toList.toArray⟩ := rfl
    conv => lhs; rw [e]
    rw [show (⟨#[46]⟩ : ByteArray) = ⟨[46].toArray⟩ from rfl, ByteArray.mk_append_mk, ByteArray.mk_append_mk]
    simp
  have hadd : ∀ w : World, (Op.stringOp .add nm ⟨#[46]⟩).run Tryz.prog w = .ok (.string (nm ++ ⟨#[46]⟩)) w := fun w => run_string_add_sum w nm ⟨#[46]⟩ (by show nm.size + 1 ≤ _; omega)
  have hadd2 : ∀ w : World, (Op.stringOp .add (nm ++ ⟨#[46]⟩) ⟨(Lib.itoa n).toArray⟩).run Tryz.prog w = .ok (.string (nm ++ ⟨#[46]⟩ ++ ⟨(Lib.itoa n).toArray⟩)) w := fun w => run_string_add_sum w _ _ (by
    rw [ByteArray.size_append]; show nm.size + 1 + (Lib.itoa n).toArray.size ≤ _; rw [List.size_toArray]; omega)
  have HA := hide hadd
  have HA2 := hide hadd2
  have HC := hide hc
  have HE := hide he
  clear hadd hadd2 hc he hln
  go_enter Tryz.func70, Tryz.ntmps70
  go_wp2
  have hb0 : Below w.heap.size w (w.alloc (.cells #[.int .i64 n, .int .i64 z, .int .i64 f] 108)) := (Below.refl _ _).alloc (Nat.le_refl _) _
  have hg0 : (w.alloc (.cells #[.int .i64 n, .int .i64 z, .int .i64 f] 108)).cell? ⟨w.heap.size, 0, none⟩ = some (.int .i64 n) := by
    rw [cell_of_row _ w.heap.size 0 _ _ (0, 0) (heap_alloc_new w _)]; rfl
  refine wp_region_noPanic ?_
  refine wp_region_held_drew (S := fun wx => wx.cell? ⟨l, 1, none⟩ = some (.string nm) ∧ wx.cell? ⟨w.heap.size, 0, none⟩ = some (.int .i64 n) ∧ Env B wx ∧ Below w.heap.size w wx) (by kernel_rfl) (⟨(by rw [World.cell?_of_block (hb0.block l hl)]; exact HC.out), hg0, (HE.out.below (hb0.mono hB)).below (Below.refl _ _).drew, hb0.drew⟩) (fun hHeld => ?_)
  refine takeH 0 (some 5) (.pointer (some ⟨l, 0, none⟩)) rfl rfl (by kernel_rfl) (by kernel_rfl) (by kernel_rfl) (fun _ _ _ h => h) (by rfl) (fun w hw => by first | rfl | (go_simp; done) | (go_simp; rfl)) hHeld ?_
  simp only [Act.put, List.setIfInBounds_toArray, List.set_cons_zero, List.set_cons_succ]
  refine takeH 1 (some 6) (.pointer (some ⟨l, 0, none⟩)) rfl rfl (by kernel_rfl) (by kernel_rfl) (by kernel_rfl) (fun _ _ _ h => h) (by rfl) (fun w hw => by first | rfl | (go_simp; done) | (go_simp; rfl)) hHeld ?_
  simp only [Act.put, List.setIfInBounds_toArray, List.set_cons_zero, List.set_cons_succ]
  refine takeH 2 (some 7) (.pointer (some ⟨l, 1, none⟩)) rfl rfl (by kernel_rfl) (by kernel_rfl) (by kernel_rfl) (fun _ _ _ h => h) (by rfl) (fun w hw => by first | rfl | (go_simp; done) | (go_simp; rfl)) hHeld ?_
  simp only [Act.put, List.setIfInBounds_toArray, List.set_cons_zero, List.set_cons_succ]
  refine takeH 3 (some 8) (.string nm) rfl rfl (by kernel_rfl) (by kernel_rfl) (by kernel_rfl) (fun _ _ _ h => h) (by rfl) (fun w hw => by have hw1 := hw.1; first | rfl | (go_simp; done) | (go_simp; rfl)) hHeld ?_
  simp only [Act.put, List.setIfInBounds_toArray, List.set_cons_zero, List.set_cons_succ]
  refine takeH 4 (some 9) (.string (nm ++ ⟨#[46]⟩)) rfl rfl (by kernel_rfl) (by kernel_rfl) (by kernel_rfl) (fun _ _ _ h => h) (by rfl) (fun w hw => by have ha := HA.out; first | rfl | (go_simp; done) | (go_simp; rfl)) hHeld ?_
  simp only [Act.put, List.setIfInBounds_toArray, List.set_cons_zero, List.set_cons_succ]
  refine takeH 5 (some 10) (.pointer (some ⟨w.heap.size, 0, none⟩)) rfl rfl (by kernel_rfl) (by kernel_rfl) (by kernel_rfl) (fun _ _ _ h => h) (by rfl) (fun w hw => by first | rfl | (go_simp; done) | (go_simp; rfl)) hHeld ?_
  simp only [Act.put, List.setIfInBounds_toArray, List.set_cons_zero, List.set_cons_succ]
  refine takeH 6 (some 11) (.int .i64 n) rfl rfl (by kernel_rfl) (by kernel_rfl) (by kernel_rfl) (fun _ _ _ h => h) (by rfl) (fun w hw => by have hw1 := hw.2.1; first | rfl | (go_simp; done) | (go_simp; rfl)) hHeld ?_
  simp only [Act.put, List.setIfInBounds_toArray, List.set_cons_zero, List.set_cons_succ]
  refine wpAnyH_ready (rs := [7]) (by kernel_rfl) (by simp) (AllReadyH.cons rfl (fun K hK => ?_) AllReadyH.nil)
  rw [if_pos (by rfl)]
  go_simp
  refine (itoa_any n (by omega) (by omega) _ hHeld.2.2.1).mono ?_
  rintro e x1 ⟨rfl, hb⟩
  try go_wp2_with fail
  refine hK.out _ _ (⟨by rw [World.cell?_of_block (hb.block l (Nat.lt_of_lt_of_le hl hHeld.2.2.2.size))]; exact hHeld.1, by rw [World.cell?_of_block (hb.block w.heap.size (World.block_lt_of_cell? _ _ hHeld.2.1))]; exact hHeld.2.1, hHeld.2.2.1.below (hb.mono (Nat.le_trans hB hHeld.2.2.2.size)), hHeld.2.2.2.trans (hb.mono hHeld.2.2.2.size)⟩) (fun hH => ?_)
  clear hK K hHeld
  have hHeld := hH
  clear hH
  refine takeH 8 (some 13) (.string (nm ++ ⟨#[46]⟩ ++ ⟨(Lib.itoa n).toArray⟩)) rfl rfl (by kernel_rfl) (by kernel_rfl) (by kernel_rfl) (fun _ _ _ h => h) (by rfl) (fun w hw => by have ha := HA2.out; first | rfl | (go_simp; done) | (go_simp; rfl)) hHeld ?_
  simp only [Act.put, List.setIfInBounds_toArray, List.set_cons_zero, List.set_cons_succ]
  refine takeH 9 (some 4) (.string (nm ++ ⟨#[46]⟩ ++ ⟨(Lib.itoa n).toArray⟩)) rfl rfl (by kernel_rfl) (by kernel_rfl) (by kernel_rfl) (fun _ _ _ h => h) (by rfl) (fun w hw => by first | rfl | (go_simp; done) | (go_simp; rfl)) hHeld ?_
  simp only [Act.put, List.setIfInBounds_toArray, List.set_cons_zero, List.set_cons_succ]
  refine ⟨by kernel_rfl, ?_⟩
  refine NoPanic.normal ?_
  go_wp2
  go_ret
  refine ⟨?_, hHeld.2.2.2⟩
  rw [HX.out]; rfl

/-! ### the number of a file's name -/
def numOf (f k : Key) : Option Int :=
  if Lib.hasPrefix f (k ++ [46]) then
    match Lib.atoiAll (f.drop (k.length + 1)) with
    | .ok v => if 0 ≤ v ∧ v ≤ 9999999 ∧ Lib.itoa v = f.drop (k.length + 1) then some v else none
    | _ => none
  else none
theorem atoi_any (s : ByteArray) (hs : s.size ≤ 1000) {B : Nat} (w : World) (he : Env B w) :
    Calls Tryz.prog 132 #[.string s] w fun e w' => ∃ x ev, e = .returned (.tuple #[.int .i64 x, ev]) ∧ ((ev = .nilIface ∧ Lib.atoiAll s.data.toList = .ok x) ∨ ((∃ t p, ev = .iface t p) ∧ ∀ v, Lib.atoiAll s.data.toList ≠ .ok v)) ∧ Below w.heap.size w w' := by
  cases h : Lib.atoiAll s.data.toList with
  | ok v =>
    refine (Any.strconv_Atoi_ok Tryz.laysAtoi s (by omega) v h w).mono ?_
    rintro e w' ⟨rfl, hw⟩
    refine ⟨v, _, rfl, .inl ⟨rfl, rfl⟩, ?_⟩
    rcases hw with rfl | ⟨t, rfl⟩
    · exact Below.refl _ _
    · exact Lib.bytesWorld_below _ _ _
  | «syntax» =>
    obtain ⟨tp, p, hv⟩ := he.syn
    refine (Any.strconv_Atoi_syntax_var Tryz.laysAtoi s (by omega) h tp p w hv).mono ?_
    rintro e w' ⟨N, rfl, _, _, hb⟩
    exact ⟨_, _, rfl, .inr ⟨⟨_, _, rfl⟩, fun v hv => by cases hv⟩, hb⟩
  | range =>
    obtain ⟨tp, p, hv⟩ := he.rng
    refine (Any.strconv_Atoi_range_var Tryz.laysAtoi s (by omega) h tp p w hv).mono ?_
    rintro e w' ⟨N, rfl, _, _, hb⟩
    exact ⟨_, _, rfl, .inr ⟨⟨_, _, rfl⟩, fun v hv => by cases hv⟩, hb⟩
end Go.Proofs.YtjfbdnogkbhciaaGreatDoor
/-
  syncAll: one file behind the other, as far as the disk lets.
-/
namespace Go.Proofs.YtjfbdnogkbhciaaGreatDoor
open Go.RowKit Go.Maps
set_option linter.unusedVariables false
attribute [local go_sem] Oper.semAt_some
def AD.syncs (A : AD) : List Key → Int × AD
  | [] => (0, A)
  | f :: r => if (A.sync f).1 ≠ 0 then A.sync f else (A.sync f).2.syncs r
def AL.files (g : AL) : List Key := g.segs.map (fun s => fileL g.name.data.toList s.num)
def AL.fileAt (g : AL) (k : Nat) : ByteArray := fileB g.name (g.segs.getD k ⟨0, 0, 0⟩).num
theorem AL.fileAt_list (g : AL) (k : Nat) (h : k < g.segs.length) : g.files[k]? = some (g.fileAt k).data.toList := by
  unfold AL.files AL.fileAt
  rw [List.getElem?_map, List.getElem?_eq_getElem h, List.getD_eq_getElem?_getD, List.getElem?_eq_getElem h]
  rfl
theorem hset_keep {α : Type} {L : List α} {j : Nat} {x : α} (h : L[j]? = some x) : L.set j x = L := by
  obtain ⟨hl, rfl⟩ := List.getElem?_eq_some_iff.1 h
  exact List.set_getElem_self hl
/-- What is asked of a log. -/
structure AL.Ok (g : AL) : Prop where
  name : g.name.size ≤ 24
  nums : ∀ s ∈ g.segs, 0 ≤ s.num ∧ s.num ≤ 10000000
  len : g.segs.length ≤ 10000000
theorem AL.Ok.num {g : AL} (h : g.Ok) (k : Nat) : 0 ≤ (g.segs.getD k ⟨0, 0, 0⟩).num ∧ (g.segs.getD k ⟨0, 0, 0⟩).num ≤ 10000000 := by
  rw [List.getD_eq_getElem?_getD]
  cases hq : g.segs[k]? with
  | none => exact ⟨by show (0 : Int) ≤ 0; omega, by show (0 : Int) ≤ 10000000; omega⟩
  | some s => exact h.nums s (List.mem_of_getElem? hq)
section
variable {B : Nat} {w : World} {L : List Item} {j l p : Nat} {g : AL} {v : Value}
/-- What the iterator reads, out of the log and its box. -/
theorem view_of {ad : Option Addr} {cap b off bx : Nat} {r : Option Nat} (hat : LogAt w l p g (.slice ad g.segs.length cap) r) (had : 0 < g.segs.length → ad = some ⟨b, off, none⟩) (hb : w.cell? ⟨bx, 0, none⟩ = some (.pointer (some ⟨l, 0, none⟩))) : View bx l ad b off g.segs.length cap (fun k => (g.segs.getD k ⟨0, 0, 0⟩).num) w := by
  refine ⟨hb, hat.c3, fun k hk => ?_⟩
  obtain ⟨ad', cap', hv, hle, hrow⟩ := hat.row
  cases hv
  have ha := had (by omega)
  subst ha
  rcases hrow with ⟨h1, _⟩ | ⟨b', off', h1, _, hbl, hc, _⟩
  · cases h1
  · cases h1
    have e : ∀ j, j < 3 → w.cell? ⟨b, off + k * 3 + j, none⟩ = (g.segs[k]).cs[j]? := fun j hj => by
      rw [show off + k * 3 + j = off + (3 * k + j) by omega, hc (3 * k + j) (by omega), cellsG_get _ _ hk _ hj]
    have hd : g.segs.getD k ⟨0, 0, 0⟩ = g.segs[k] := by rw [List.getD_eq_getElem?_getD, List.getElem?_eq_getElem hk]; rfl
    exact ⟨g.segs[k].size, g.segs[k].fin, by rw [hd]; exact e 0 (by omega), e 1 (by omega), e 2 (by omega)⟩
/-- The form of a log's slice. -/
theorem form_of {r : Option Nat} (h : LogAt w l p g v r) : ∃ ad cap b off, v = .slice ad g.segs.length cap ∧ (0 < g.segs.length → ad = some ⟨b, off, none⟩) := by
  obtain ⟨ad, cap, hv, hle, hrow⟩ := h.row
  rcases hrow with ⟨h1, h2, _⟩ | ⟨b, off, h1, _⟩
  · exact ⟨ad, cap, 0, 0, hv, fun hp => by omega⟩
  · exact ⟨ad, cap, b, off, hv, fun _ => h1⟩
end
section
variable {B : Nat} {w : World} {L : List Item} {i j l p : Nat} {A : AD} {g : AL}
theorem hset_app {α : Type} {L M : List α} {j : Nat} (x : α) (h : j < L.length) : (L ++ M).set j x = L.set j x ++ M := by
  rw [List.set_append, if_pos h]
theorem syncs_step (A : AD) {fs : List Key} {k : Nat} {f : Key} (h : fs[k]? = some f) : A.syncs (fs.drop k) = if (A.sync f).1 ≠ 0 then A.sync f else (A.sync f).2.syncs (fs.drop (k + 1)) := by
  obtain ⟨hl, rfl⟩ := List.getElem?_eq_some_iff.1 h
  rw [List.drop_eq_getElem_cons hl]; rfl
set_option maxRecDepth 100000 in
set_option maxHeartbeats 8000000 in
theorem syncAll_any (h : Lies B w L) (hi : L[i]? = some (.disk p A)) (hj : L[j]? = some (.log l p g)) (hij : i ≠ j) (hg : g.Ok) (he : Env B w) :
    Calls Tryz.prog 71 #[.pointer (some ⟨l, 0, none⟩)] w fun e w' => e = .returned (.int .i64 (A.syncs g.files).1) ∧ Lies B w' (L.set i (.disk p (A.syncs g.files).2)) ∧ Below B w w' := by
  obtain ⟨v, hp⟩ := h.pin hj
  obtain ⟨M, hM⟩ : ∃ M, L.set j (.logv l p g v) = M := ⟨_, rfl⟩
  rw [hM] at hp
  have hMi : M[i]? = some (.disk p A) := by rw [← hM, List.getElem?_set_ne (fun e => hij e.symm)]; exact hi
  have hMj : M[j]? = some (.logv l p g v) := by rw [← hM, List.getElem?_set_self (List.getElem?_eq_some_iff.1 hj).1]
  obtain ⟨r, hat, hBl⟩ := hp.logv hMj
  obtain ⟨ad, cap, b, off, hv, had⟩ := form_of hat
  subst hv
  have HB0 := h.base
  have HFIN : Hid (∀ (X : AD) (W : World), Lies B W (M.set i (.disk p X)) → Lies B W (L.set i (.disk p X))) := fun X W hl => by
    have := hl.unpin (j := j) (by rw [List.getElem?_set_ne hij]; exact hMj)
    rw [← hM, List.set_comm _ _ hij, List.set_set, hset_keep hj] at this
    exact this
  obtain ⟨RS, hRS⟩ : ∃ R, A.syncs g.files = R := ⟨_, rfl⟩
  rw [hRS]
  -- the boxes
  obtain ⟨g0, hg0⟩ : ∃ x, w.heap.size = x := ⟨_, rfl⟩
  obtain ⟨w1, hw1⟩ : ∃ x, w.alloc (.cells #[.pointer (some ⟨l, 0, none⟩)] 33) = x := ⟨_, rfl⟩
  obtain ⟨hl1, hb1⟩ := hp.newCells #[.pointer (some ⟨l, 0, none⟩)] 33
  rw [hw1, hg0] at hl1
  rw [hw1] at hb1
  obtain ⟨g1, hg1⟩ : ∃ x, w1.heap.size = x := ⟨_, rfl⟩
  obtain ⟨w2, hw2⟩ : ∃ x, w1.alloc (.cells #[.int .i64 0] 24) = x := ⟨_, rfl⟩
  obtain ⟨hl2, hb2⟩ := hl1.newCells #[.int .i64 0] 24
  rw [hw2, hg1] at hl2
  rw [hw2] at hb2
  obtain ⟨g2, hg2⟩ : ∃ x, w2.heap.size = x := ⟨_, rfl⟩
  obtain ⟨w3, hw3⟩ : ∃ x, w2.alloc (.cells #[.pointer (some ⟨l, 0, none⟩)] 33) = x := ⟨_, rfl⟩
  obtain ⟨hl3, hb3⟩ := hl2.newCells #[.pointer (some ⟨l, 0, none⟩)] 33
  rw [hw3, hg2] at hl3
  rw [hw3] at hb3
  have hb3' := (hb1.trans hb2).trans hb3
  rw [List.append_assoc, List.append_assoc] at hl3
  rw [List.append_assoc] at hl2
  have z1 : w2.cell? ⟨g0, 0, none⟩ = some (.pointer (some ⟨l, 0, none⟩)) := by
    rw [hl2.cellAt (q := M.length + 0) (b := g0) (cs := #[.pointer (some ⟨l, 0, none⟩)]) (T := 33) (by rw [get_tail]; rfl)]; rfl
  obtain ⟨X3, hX3⟩ : ∃ X : Int → List Item, X = fun e => [.block g0 (.cells #[.pointer (some ⟨l, 0, none⟩)] 33 (0, 0)), .block g1 (.cells #[.int .i64 e] 24 (0, 0)), .block g2 (.cells #[.pointer (some ⟨l, 0, none⟩)] 33 (0, 0))] := ⟨_, rfl⟩
  have hl3' : Lies B w3 (M ++ X3 0) := by rw [hX3]; exact hl3
  have HX0 : Hid (∀ e, (X3 e)[0]? = some (.block g0 (.cells #[.pointer (some ⟨l, 0, none⟩)] 33 (0, 0)))) := fun e => by rw [hX3]; rfl
  have HX1 : Hid (∀ e, (X3 e)[1]? = some (.block g1 (.cells #[.int .i64 e] 24 (0, 0)))) := fun e => by rw [hX3]; rfl
  have HX2 : Hid (∀ e, (X3 e)[2]? = some (.block g2 (.cells #[.pointer (some ⟨l, 0, none⟩)] 33 (0, 0)))) := fun e => by rw [hX3]; rfl
  have HXs : Hid (∀ e e' : Int, (X3 e).set 1 (.block g1 (.cells (#[Value.int .i64 e].setIfInBounds 0 (.int .i64 e')) 24 (0, 0))) = X3 e') := fun e e' => by rw [hX3]; rfl
  have HL3 := hide hl3'
  have HB3 := hide hb3'
  have HE := hide he
  have HG := hide hg
  have HAD := hide had
  have HMi := hide hMi
  have HMj := hide hMj
  have HIJ := hide hij
  have HRS := hide hRS
  clear h hi hj hp hat hl1 hl2 hl3 hl3' hb1 hb2 hb3 hb3' he hg had hM hMi hMj hij hX3 HB0 hBl hRS
  refine (callsIn_wide (n := 6)).1 ?_
  refine callsIn_of_wp_marks Tryz.func71 rfl trivial ?_ rfl
  simp only [Tryz.ntmps71, List.size_toArray, List.length_cons, List.length_nil, Nat.reduceAdd, Nat.reduceSub, Array.replicate_succ, Array.replicate_zero, List.push_toArray, List.append_toArray, List.nil_append, List.cons_append]
  have f38 : Fence.wide.fn 38 := trivial
  have hio : Calls Tryz.prog 38 #[.pointer (some ⟨l, 0, none⟩)] w2 fun e w' => e = .returned (.func (.func 72) #[] #[.pointer (some ⟨g2, 0, none⟩)]) ∧ w' = w3 := by
    have := inOrder_any l w2
    rw [hg2, hw3] at this
    exact this
  have HIO := hide hio
  clear hio
  gi_wp2_with (gi_at_call 38; refine ((callsIn_wide (n := _)).2 HIO.out).mono ?_; rintro e w' ⟨rfl, hw⟩; obtain rfl := hw.symm)
  clear HIO hw3 hw2 hw1 hg2 hg1 hg0 z1 f38
  obtain ⟨D, hD⟩ : ∃ D, w3.heap.size = D := ⟨_, rfl⟩
  refine wp_rangeFunc_held 6 (by omega) (gf := 72) (lb := #[.pointer (some ⟨g2, 0, none⟩)]) rfl (enters_of Tryz.func72 (by kernel_rfl) rfl) (encs b off g.fileAt) g.segs.length (fun _ => rfl)
    (fun ob k W => ∃ Ak : AD, RS = Ak.syncs (g.files.drop k) ∧ Lies B W ((M.set i (.disk p Ak) ++ X3 0) ++ [.block w3.heap.size (.deferred (some [])), .block (w3.heap.size + 1) ob]) ∧ Below B w W)
    (fun c ob W => c = .ret ∧ Lies B W ((M.set i (.disk p RS.2) ++ X3 RS.1) ++ [.block w3.heap.size (.deferred (some [])), .block (w3.heap.size + 1) ob]) ∧ Below B w W)
    (fun ob k W ⟨Ak, _, hl, _⟩ => held_get hl)
    (fun ob ob' k W ⟨Ak, hs, hl, hb⟩ => ⟨Ak, hs, (held_put ob' hl).1, hb.trans (held_put ob' hl).2⟩)
    (fun c ob W ⟨_, hl, _⟩ => held_get hl)
    (fun c ob ob' W ⟨hc, hl, hb⟩ => ⟨hc, (held_put ob' hl).1, hb.trans (held_put ob' hl).2⟩)
    (fun ob => ⟨A, by rw [List.drop_zero]; exact HRS.out.symm, by rw [hset_keep HMi.out]; exact (held_new HL3.out _ _).1, HB3.out.trans (held_new HL3.out _ _).2⟩)
    ?seq
    (fun k => { tmps := #[.pointer (some ⟨l, 0, none⟩), .pointer (some ⟨g0, 0, none⟩), .pointer (some ⟨g1, 0, none⟩), undef, .string (g.fileAt k), undef, .pointer (some ⟨l, 0, none⟩), .func (.func 72) #[] #[.pointer (some ⟨g2, 0, none⟩)], .pointer (some ⟨b, off + k * 3, none⟩), .string (g.fileAt k), undef, undef, undef, undef, undef, undef, undef, undef, undef], defers := [] }) ?assign ?body ?done ?stop
  case seq =>
    intro ob Jx hY W h0
    refine iter_in 5 (w3.heap.size + 1) (by omega) g2 l b off g.segs.length cap ad HAD.out HG.out.len (fun k => (g.segs.getD k ⟨0, 0, 0⟩).num) g.fileAt _ Jx ?_ ?_ ?_ hY W h0
    · rintro k W ⟨Ak, _, hl, _⟩
      obtain ⟨r, hat, _⟩ := hl.logv (j := j) (get_head (get_head (by rw [List.getElem?_set_ne HIJ.out]; exact HMj.out)))
      refine view_of hat HAD.out ?_
      rw [Lies.cellAt (L := (M.set i (.disk p Ak) ++ X3 0) ++ _) (q := (M.set i (.disk p Ak)).length + 2) hl (get_head (by rw [get_tail]; exact HX2.out 0))]; rfl
    · rintro k W W' ⟨Ak, hs, hl, hb⟩ hb'
      exact ⟨Ak, hs, hl.below hb', hb.trans (hb'.mono hl.base)⟩
    · rintro k W z f hk ⟨Ak, _, hl, hb⟩
      obtain ⟨r, hat, hBl⟩ := hl.logv (j := j) (get_head (get_head (by rw [List.getElem?_set_ne HIJ.out]; exact HMj.out)))
      exact file_any l _ z f g.name W hat.c1 (lt_of_some hat.cells) HG.out.name (HG.out.num k).1 (HG.out.num k).2 (HE.out.below hb) hl.base
  case assign =>
    intro k W K hK
    unfold encs
    gi_wp2
    exact hK
  case body =>
    rintro ob k W hk ⟨Ak, hs, hl, hb⟩
    have hf := g.fileAt_list k hk
    have hMi' : (M.set i (.disk p Ak))[i]? = some (.disk p Ak) := List.getElem?_set_self (List.getElem?_eq_some_iff.1 HMi.out).1
    obtain ⟨E, hE⟩ : ∃ E, (Ak.sync (g.fileAt k).data.toList).1 = E := ⟨_, rfl⟩
    obtain ⟨A2, hA2⟩ : ∃ X, (Ak.sync (g.fileAt k).data.toList).2 = X := ⟨_, rfl⟩
    have hc := s_sync hl (get_head (get_head hMi')) (g.fileAt k) (by have := fileB_size (b := g.name) HG.out.name (HG.out.num k).1 (HG.out.num k).2; unfold AL.fileAt maxLen; omega)
    rw [hE, hA2, hset_app _ (by rw [List.length_append, List.length_set]; have := (List.getElem?_eq_some_iff.1 HMi.out).1; omega), hset_app _ (by rw [List.length_set]; exact (List.getElem?_eq_some_iff.1 HMi.out).1), List.set_set] at hc
    have hst := syncs_step Ak hf
    rw [hE, hA2, show Ak.sync (g.fileAt k).data.toList = (E, A2) by rw [← hE, ← hA2], ← hs] at hst
    have c0 : W.cell? ⟨g0, 0, none⟩ = some (.pointer (some ⟨l, 0, none⟩)) := by
      rw [Lies.cellAt (L := (M.set i (.disk p Ak) ++ X3 0) ++ _) (q := (M.set i (.disk p Ak)).length + 0) hl (get_head (by rw [get_tail]; exact HX0.out 0))]; rfl
    obtain ⟨r, hat, _⟩ := hl.logv (j := j) (get_head (get_head (by rw [List.getElem?_set_ne HIJ.out]; exact HMj.out)))
    have cl := hat.c0
    have HC := hide hc
    have HST := hide hst
    have HBW := hide hb
    have f9 : Fence.wide.fn 9 := trivial
    clear hc hst hb hs hl hat hE hA2 hf hMi'
    gi_wp2_with fail
    refine (CallsIn.inRound _ ((callsIn_wide (n := _)).2 HC.out)).mono ?_
    rintro e W2 ⟨rfl, h2, hb2⟩
    have H2 := hide h2
    have HB2 := hide (HBW.out.trans hb2)
    by_cases e0 : E = 0
    · subst e0
      have HS2 : Hid (RS = A2.syncs (g.files.drop (k + 1))) := HST.out
      clear h2 hb2 HC HST HBW
      gi_wp2
      exact ⟨A2, HS2.out, H2.out, HB2.out⟩
    · have HE2 : Hid (RS = (E, A2)) := by
        show _ = _
        rw [HST.out, if_pos e0]
      have b1 : (E == 0) = false := beq_eq_false_iff_ne.2 e0
      have b1' : (E != 0) = true := by unfold bne; rw [b1]; rfl
      have q1 : ((M.set i (.disk p A2) ++ X3 0) ++ [Item.block w3.heap.size (.deferred (some [])), Item.block (w3.heap.size + 1) ob])[(M.set i (.disk p A2)).length + 1]? = some (.block g1 (.cells #[.int .i64 0] 24 (0, 0))) := get_head (by rw [get_tail]; exact HX1.out 0)
      have z1 : W2.cell? ⟨g1, 0, none⟩ = some (.int .i64 0) := by rw [h2.cellAt q1]; rfl
      have z2 : W2.frozen? ⟨g1, 0, none⟩ = false := h2.frozenAt q1 0
      have hset := h2.setAt q1 0 (.int .i64 E)
      rw [hset_app _ (by rw [List.length_append]; have := (List.getElem?_eq_some_iff.1 (HX1.out 0)).1; omega), List.set_append_right _ _ (by omega), Nat.add_sub_cancel_left, HXs.out] at hset
      have HSET := hide hset
      clear h2 hb2 HC HST HBW q1 hset e0
      gi_wp2
      refine ⟨rfl, ?_, HB2.out.trans HSET.out.2⟩
      rw [HE2.out]
      exact HSET.out.1
  case done =>
    rintro ob W ⟨Ak, hs, hl, hb⟩
    have hRE : RS = (0, Ak) := by
      rw [hs, List.drop_of_length_le (by unfold AL.files; rw [List.length_map]; exact Nat.le_refl _)]; rfl
    have q1 : ((M.set i (.disk p Ak) ++ X3 0) ++ [Item.block w3.heap.size (.deferred (some [])), Item.block (w3.heap.size + 1) ob])[(M.set i (.disk p Ak)).length + 1]? = some (.block g1 (.cells #[.int .i64 0] 24 (0, 0))) := get_head (by rw [get_tail]; exact HX1.out 0)
    have z1 : W.cell? ⟨g1, 0, none⟩ = some (.int .i64 0) := by rw [hl.cellAt q1]; rfl
    have z2 : W.frozen? ⟨g1, 0, none⟩ = false := hl.frozenAt q1 0
    have hset := hl.setAt q1 0 (.int .i64 0)
    rw [hset_app _ (by rw [List.length_append]; have := (List.getElem?_eq_some_iff.1 (HX1.out 0)).1; omega), List.set_append_right _ _ (by omega), Nat.add_sub_cancel_left, HXs.out] at hset
    obtain ⟨hd1, hd2⟩ := held_drop hset.1 (.deferred none)
    have hK := (held_get hset.1).2
    have hc5 := hd1.cellAt (q := (M.set i (.disk p Ak)).length + 1) (b := g1) (cs := #[.int .i64 0]) (T := 24) (by rw [get_tail]; exact HX1.out 0) 0
    have HD1 := hide (HFIN.out _ _ (Lies.drop (M := X3 0) hd1))
    have HBD := hide ((hb.trans hset.2).trans hd2)
    have HK := hide hK
    have HC5 := hide hc5
    have HRE := hide hRE
    clear hs hl hb hRE q1 hset hd1 hd2 hK hc5
    gi_wp2
    refine ⟨by simp, .inl ⟨_, _, rfl, run_takeDeferred HK.out, ?_⟩⟩
    refine ⟨.int .i64 0, ?_, ?_⟩
    · have hc5 := HC5.out
      simp at hc5
      simp [results, Tryz.f71, go_sem, hc5]
    · rw [HRE.out]
      exact ⟨rfl, HD1.out, HBD.out⟩
  case stop =>
    rintro c ob W ⟨rfl, hl, hb⟩
    obtain ⟨hd1, hd2⟩ := held_drop hl (.deferred none)
    have hK := (held_get hl).2
    have hc5 := hd1.cellAt (q := (M.set i (.disk p RS.2)).length + 1) (b := g1) (cs := #[.int .i64 RS.1]) (T := 24) (by rw [get_tail]; exact HX1.out _) 0
    have HD1 := hide (HFIN.out _ _ (Lies.drop (M := X3 RS.1) hd1))
    have HBD := hide (hb.trans hd2)
    have HK := hide hK
    have HC5 := hide hc5
    clear hl hb hd1 hd2 hK hc5
    gi_wp2
    refine ⟨by simp, .inl ⟨_, _, rfl, run_takeDeferred HK.out, ?_⟩⟩
    refine ⟨.int .i64 RS.1, ?_, ?_⟩
    · have hc5 := HC5.out
      simp at hc5
      simp [results, Tryz.f71, go_sem, hc5]
    · exact ⟨rfl, HD1.out, HBD.out⟩
end
end Go.Proofs.YtjfbdnogkbhciaaGreatDoor
