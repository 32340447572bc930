/-
  The statements' own helpers: all, text, step, made.
-/
import Derived.Test.YtcmhfpiglacdaaaHelps
namespace Go.Proofs.Ytcmhfpiglacdaaa
open Go.RowKit Go.Maps Go.WideMaps
set_option linter.unusedVariables false
set_option linter.unusedSimpArgs false
def AD.all (A : AD) (k : Key) : Key := (A.read k 0 1048576).1
theorem all_any {B : Nat} {w : World} {L : List Item} {i p : Nat} {A : AD} (h : Lies B w L) (hi : L[i]? = some (.disk p A)) (s : ByteArray) (hs : s.size ≤ maxLen) :
    Calls Try.prog 16 #[.pointer (some ⟨p, 0, none⟩), .string s] w fun e w' => e = .returned (.string ⟨(A.all s.data.toList).toArray⟩) ∧ Lies B w' L ∧ Below B w w' := by
  have hcall := s_read h hi s hs 0 1048576
  clear h
  go_enter Try.func16, Try.ntmps16
  go_wp2_with fail
  refine hcall.mono ?_
  rintro e w1 ⟨rfl, h1, hb1⟩
  clear hcall
  go_wp2
  go_ret
  exact ⟨rfl, h1, hb1⟩
/-- One step of a script. -/
structure OP where
  kind : Int
  two : Bool
  name : ByteArray
  to : ByteArray
  at_ : Int
  n : Int
  text : ByteArray
  ad : Option Addr
  fates : List FT
  cap : Nat
def OP.cs (o : OP) : Array Value := #[.int .i64 o.kind, .bool o.two, .string o.name, .string o.to, .int .i64 o.at_, .int .i64 o.n, .string o.text, .slice o.ad o.fates.length o.cap]
structure OP.Ok (o : OP) : Prop where
  name : o.name.size ≤ maxLen
  to : o.to.size ≤ maxLen
  a0 : -9223372036854775808 ≤ o.at_
  a1 : o.at_ < 9223372036854775808
  n0 : -9223372036854775808 ≤ o.n
  n1 : o.n < 9223372036854775808
  text : o.text.size ≤ 140737488355328
  fates : ∀ x ∈ o.fates, x.Ok
  len : o.fates.length ≤ 9223372036854775807
/-- Where its fates lie. -/
theorem FatesAt.later {B : Nat} {w w' : World} {ad : Option Addr} {ls : List FT} (h : FatesAt w ad ls) (hb : Below B w w') (hB : ls ≠ [] → ∀ b o, ad = some ⟨b, o, none⟩ → b < B) : FatesAt w' ad ls := by
  by_cases he : ls = []
  · exact .inl he
  · exact h.below hb (hB he)
structure OP.Lie (B : Nat) (w : World) (o : OP) : Prop where
  at_ : FatesAt w o.ad o.fates
  lt : o.fates ≠ [] → ∀ b f, o.ad = some ⟨b, f, none⟩ → b < B
theorem OP.Lie.below {B : Nat} {w w' : World} {o : OP} (h : o.Lie B w) (hb : Below B w w') : o.Lie B w' := ⟨h.at_.later hb h.lt, h.lt⟩
def AD.step (A : AD) (o : OP) : Int × AD :=
  if o.kind = 1 then A.write o.name.data.toList o.at_ o.text.data.toList
  else if o.kind = 2 then A.sync o.name.data.toList
  else if o.kind = 3 then A.trunc o.name.data.toList o.n
  else if o.kind = 4 then A.rename o.name.data.toList o.to.data.toList
  else if o.kind = 5 then A.remove o.name.data.toList
  else if o.kind = 7 then (0, A.armed o.n o.at_)
  else if o.kind = 11 then (0, A.fallen o.n)
  else if o.kind = 8 then (0, A.crash (o.fates.map FT.abs))
  else if o.kind = 9 then (0, A.on)
  else (0, A)
theorem set_same {α : Type} {L : List α} {i : Nat} {x : α} (h : L[i]? = some x) : L.set i x = L := by
  obtain ⟨hl, rfl⟩ := List.getElem?_eq_some_iff.1 h
  exact List.set_getElem_self hl
set_option maxRecDepth 5000 in
set_option maxHeartbeats 1000000 in
theorem step_any {B : Nat} {w : World} {L : List Item} {i p : Nat} {A : AD} (h : Lies B w L) (hi : L[i]? = some (.disk p A)) (o : OP) (hok : o.Ok) (hl : o.Lie B w) :
    Calls Try.prog 19 #[.pointer (some ⟨p, 0, none⟩), .agg o.cs] w fun e w' => e = .returned (.int .i64 (A.step o).1) ∧ Lies B w' (L.set i (.disk p (A.step o).2)) ∧ Below B w w' := by
  obtain ⟨w1, hw1⟩ : ∃ w1, w.alloc (.cells o.cs 44) = w1 := ⟨_, rfl⟩
  have hb1 : Below w.heap.size w w1 := by rw [← hw1]; exact (Below.refl _ _).alloc (Nat.le_refl _) _
  have h1 := h.below hb1
  have hB := hb1.mono h.base
  have hl1 := hl.below hB
  obtain ⟨g, hg⟩ : ∃ g, w.heap.size = g := ⟨_, rfl⟩
  have hcell : ∀ j, w1.cell? ⟨g, j, none⟩ = o.cs[j]? := fun j => by rw [← hw1, ← hg, cell_of_row _ w.heap.size j _ _ (0, 0) (heap_alloc_new w _)]
  have f0 : w1.cell? ⟨g, 0, none⟩ = some (.int .i64 o.kind) := hcell 0
  have f2 : w1.cell? ⟨g, 2, none⟩ = some (.string o.name) := hcell 2
  have f3 : w1.cell? ⟨g, 3, none⟩ = some (.string o.to) := hcell 3
  have f4 : w1.cell? ⟨g, 4, none⟩ = some (.int .i64 o.at_) := hcell 4
  have f5 : w1.cell? ⟨g, 5, none⟩ = some (.int .i64 o.n) := hcell 5
  have f6 : w1.cell? ⟨g, 6, none⟩ = some (.string o.text) := hcell 6
  have f7 : w1.cell? ⟨g, 7, none⟩ = some (.slice o.ad o.fates.length o.cap) := hcell 7
  have H1 := hide h1
  have HB := hide hB
  have HL1 := hide hl1
  have HK := hide hok
  obtain ⟨name1, to1, a0, a1, n0, n1, tx, fa, ln⟩ := hok
  unfold OP.cs at hw1 ⊢
  clear hcell hb1 h1 hB hl1 h hl
  have HF : Hid (∀ (x : Int) (e : Ending) (w' : World) (A' : AD), A.step o = (x, A') → e = .returned (.int .i64 x) → Lies B w' (L.set i (.disk p A')) → Below B w1 w' → e = .returned (.int .i64 (A.step o).1) ∧ Lies B w' (L.set i (.disk p (A.step o).2)) ∧ Below B w w') :=
    fun x e w' A' hx he hL hb => by rw [hx]; exact ⟨he, hL, HB.out.trans hb⟩
  by_cases k1 : o.kind = 1
  · have HE : Hid (A.step o = A.write o.name.data.toList o.at_ o.text.data.toList) := by show _ = _; unfold AD.step; rw [if_pos k1]
    have d1 : (o.kind == 1) = true := beq_iff_eq.2 k1
    have hcall := s_write H1.out hi o.name name1 o.at_ ⟨a0, a1⟩ o.text tx
    clear k1
    go_enter Try.func19, Try.ntmps19
    go_wp2_with fail
    refine hcall.mono ?_
    rintro e w2 ⟨rfl, h2, hb2⟩
    clear hcall
    go_wp2
    go_ret
    exact HF.out _ _ _ _ HE.out rfl h2 hb2
  by_cases k2 : o.kind = 2
  · have HE : Hid (A.step o = A.sync o.name.data.toList) := by show _ = _; unfold AD.step; rw [if_neg k1, if_pos k2]
    have d1 : (o.kind == 1) = false := beq_eq_false_iff_ne.2 k1
    have d2 : (o.kind == 2) = true := beq_iff_eq.2 k2
    have hcall := s_sync H1.out hi o.name name1
    clear k1 k2
    go_enter Try.func19, Try.ntmps19
    go_wp2_with fail
    refine hcall.mono ?_
    rintro e w2 ⟨rfl, h2, hb2⟩
    clear hcall
    go_wp2
    go_ret
    exact HF.out _ _ _ _ HE.out rfl h2 hb2
  by_cases k3 : o.kind = 3
  · have HE : Hid (A.step o = A.trunc o.name.data.toList o.n) := by show _ = _; unfold AD.step; rw [if_neg k1, if_neg k2, if_pos k3]
    have d1 : (o.kind == 1) = false := beq_eq_false_iff_ne.2 k1
    have d2 : (o.kind == 2) = false := beq_eq_false_iff_ne.2 k2
    have d3 : (o.kind == 3) = true := beq_iff_eq.2 k3
    have hcall := s_trunc H1.out hi o.name name1 o.n
    clear k1 k2 k3
    go_enter Try.func19, Try.ntmps19
    go_wp2_with fail
    refine hcall.mono ?_
    rintro e w2 ⟨rfl, h2, hb2⟩
    clear hcall
    go_wp2
    go_ret
    exact HF.out _ _ _ _ HE.out rfl h2 hb2
  by_cases k4 : o.kind = 4
  · have HE : Hid (A.step o = A.rename o.name.data.toList o.to.data.toList) := by show _ = _; unfold AD.step; rw [if_neg k1, if_neg k2, if_neg k3, if_pos k4]
    have d1 : (o.kind == 1) = false := beq_eq_false_iff_ne.2 k1
    have d2 : (o.kind == 2) = false := beq_eq_false_iff_ne.2 k2
    have d3 : (o.kind == 3) = false := beq_eq_false_iff_ne.2 k3
    have d4 : (o.kind == 4) = true := beq_iff_eq.2 k4
    have hcall := s_rename H1.out hi o.name name1 o.to to1
    clear k1 k2 k3 k4
    go_enter Try.func19, Try.ntmps19
    go_wp2_with fail
    refine hcall.mono ?_
    rintro e w2 ⟨rfl, h2, hb2⟩
    clear hcall
    go_wp2
    go_ret
    exact HF.out _ _ _ _ HE.out rfl h2 hb2
  by_cases k5 : o.kind = 5
  · have HE : Hid (A.step o = A.remove o.name.data.toList) := by show _ = _; unfold AD.step; rw [if_neg k1, if_neg k2, if_neg k3, if_neg k4, if_pos k5]
    have d1 : (o.kind == 1) = false := beq_eq_false_iff_ne.2 k1
    have d2 : (o.kind == 2) = false := beq_eq_false_iff_ne.2 k2
    have d3 : (o.kind == 3) = false := beq_eq_false_iff_ne.2 k3
    have d4 : (o.kind == 4) = false := beq_eq_false_iff_ne.2 k4
    have d5 : (o.kind == 5) = true := beq_iff_eq.2 k5
    have hcall := s_remove H1.out hi o.name name1
    clear k1 k2 k3 k4 k5
    go_enter Try.func19, Try.ntmps19
    go_wp2_with fail
    refine hcall.mono ?_
    rintro e w2 ⟨rfl, h2, hb2⟩
    clear hcall
    go_wp2
    go_ret
    exact HF.out _ _ _ _ HE.out rfl h2 hb2
  by_cases k7 : o.kind = 7
  · have HE : Hid (A.step o = (0, A.armed o.n o.at_)) := by show _ = _; unfold AD.step; rw [if_neg k1, if_neg k2, if_neg k3, if_neg k4, if_neg k5, if_pos k7]
    have d1 : (o.kind == 1) = false := beq_eq_false_iff_ne.2 k1
    have d2 : (o.kind == 2) = false := beq_eq_false_iff_ne.2 k2
    have d3 : (o.kind == 3) = false := beq_eq_false_iff_ne.2 k3
    have d4 : (o.kind == 4) = false := beq_eq_false_iff_ne.2 k4
    have d5 : (o.kind == 5) = false := beq_eq_false_iff_ne.2 k5
    have d7 : (o.kind == 7) = true := beq_iff_eq.2 k7
    have hcall := s_arm H1.out hi o.n o.at_ ⟨n0, n1⟩
    clear k1 k2 k3 k4 k5 k7
    go_enter Try.func19, Try.ntmps19
    go_wp2_with fail
    refine hcall.mono ?_
    rintro e w2 ⟨rfl, h2, hb2⟩
    clear hcall
    go_wp2
    go_ret
    exact HF.out _ _ _ _ HE.out rfl h2 hb2
  by_cases k11 : o.kind = 11
  · have HE : Hid (A.step o = (0, A.fallen o.n)) := by show _ = _; unfold AD.step; rw [if_neg k1, if_neg k2, if_neg k3, if_neg k4, if_neg k5, if_neg k7, if_pos k11]
    have d1 : (o.kind == 1) = false := beq_eq_false_iff_ne.2 k1
    have d2 : (o.kind == 2) = false := beq_eq_false_iff_ne.2 k2
    have d3 : (o.kind == 3) = false := beq_eq_false_iff_ne.2 k3
    have d4 : (o.kind == 4) = false := beq_eq_false_iff_ne.2 k4
    have d5 : (o.kind == 5) = false := beq_eq_false_iff_ne.2 k5
    have d7 : (o.kind == 7) = false := beq_eq_false_iff_ne.2 k7
    have d11 : (o.kind == 11) = true := beq_iff_eq.2 k11
    have hcall := s_fall H1.out hi o.n ⟨n0, n1⟩
    clear k1 k2 k3 k4 k5 k7 k11
    go_enter Try.func19, Try.ntmps19
    go_wp2_with fail
    refine hcall.mono ?_
    rintro e w2 ⟨rfl, h2, hb2⟩
    clear hcall
    go_wp2
    go_ret
    exact HF.out _ _ _ _ HE.out rfl h2 hb2
  by_cases k8 : o.kind = 8
  · have HE : Hid (A.step o = (0, A.crash (o.fates.map FT.abs))) := by show _ = _; unfold AD.step; rw [if_neg k1, if_neg k2, if_neg k3, if_neg k4, if_neg k5, if_neg k7, if_neg k11, if_pos k8]
    have d1 : (o.kind == 1) = false := beq_eq_false_iff_ne.2 k1
    have d2 : (o.kind == 2) = false := beq_eq_false_iff_ne.2 k2
    have d3 : (o.kind == 3) = false := beq_eq_false_iff_ne.2 k3
    have d4 : (o.kind == 4) = false := beq_eq_false_iff_ne.2 k4
    have d5 : (o.kind == 5) = false := beq_eq_false_iff_ne.2 k5
    have d7 : (o.kind == 7) = false := beq_eq_false_iff_ne.2 k7
    have d11 : (o.kind == 11) = false := beq_eq_false_iff_ne.2 k11
    have d8 : (o.kind == 8) = true := beq_iff_eq.2 k8
    have hcall := s_crash H1.out hi o.ad o.fates o.cap HL1.out.at_ fa ln HL1.out.lt
    clear k1 k2 k3 k4 k5 k7 k11 k8
    go_enter Try.func19, Try.ntmps19
    go_wp2_with fail
    refine hcall.mono ?_
    rintro e w2 ⟨rfl, h2, hb2⟩
    clear hcall
    go_wp2
    go_ret
    exact HF.out _ _ _ _ HE.out rfl h2 hb2
  by_cases k9 : o.kind = 9
  · have HE : Hid (A.step o = (0, A.on)) := by show _ = _; unfold AD.step; rw [if_neg k1, if_neg k2, if_neg k3, if_neg k4, if_neg k5, if_neg k7, if_neg k11, if_neg k8, if_pos k9]
    have d1 : (o.kind == 1) = false := beq_eq_false_iff_ne.2 k1
    have d2 : (o.kind == 2) = false := beq_eq_false_iff_ne.2 k2
    have d3 : (o.kind == 3) = false := beq_eq_false_iff_ne.2 k3
    have d4 : (o.kind == 4) = false := beq_eq_false_iff_ne.2 k4
    have d5 : (o.kind == 5) = false := beq_eq_false_iff_ne.2 k5
    have d7 : (o.kind == 7) = false := beq_eq_false_iff_ne.2 k7
    have d11 : (o.kind == 11) = false := beq_eq_false_iff_ne.2 k11
    have d8 : (o.kind == 8) = false := beq_eq_false_iff_ne.2 k8
    have d9 : (o.kind == 9) = true := beq_iff_eq.2 k9
    have hcall := s_on H1.out hi
    clear k1 k2 k3 k4 k5 k7 k11 k8 k9
    go_enter Try.func19, Try.ntmps19
    go_wp2_with fail
    refine hcall.mono ?_
    rintro e w2 ⟨rfl, h2, hb2⟩
    clear hcall
    go_wp2
    go_ret
    exact HF.out _ _ _ _ HE.out rfl h2 hb2
  have HE : Hid (A.step o = (0, A)) := by show _ = _; unfold AD.step; rw [if_neg k1, if_neg k2, if_neg k3, if_neg k4, if_neg k5, if_neg k7, if_neg k11, if_neg k8, if_neg k9]
  have d1 : (o.kind == 1) = false := beq_eq_false_iff_ne.2 k1
  have d2 : (o.kind == 2) = false := beq_eq_false_iff_ne.2 k2
  have d3 : (o.kind == 3) = false := beq_eq_false_iff_ne.2 k3
  have d4 : (o.kind == 4) = false := beq_eq_false_iff_ne.2 k4
  have d5 : (o.kind == 5) = false := beq_eq_false_iff_ne.2 k5
  have d7 : (o.kind == 7) = false := beq_eq_false_iff_ne.2 k7
  have d11 : (o.kind == 11) = false := beq_eq_false_iff_ne.2 k11
  have d8 : (o.kind == 8) = false := beq_eq_false_iff_ne.2 k8
  have d9 : (o.kind == 9) = false := beq_eq_false_iff_ne.2 k9
  clear k1 k2 k3 k4 k5 k7 k11 k8 k9
  go_enter Try.func19, Try.ntmps19
  go_wp2
  go_ret
  refine HF.out _ _ _ _ HE.out rfl ?_ (Below.refl _ _)
  rw [set_same hi]
  exact H1.out
def OpsAt (w : World) (ad : Option Addr) (os : List OP) : Prop := os = [] ∨ ∃ b o, ad = some ⟨b, o, none⟩ ∧ b < w.heap.size ∧ ∀ i (h : i < os.length) j, j < 8 → w.cell? ⟨b, o + i * 8 + j, none⟩ = (os[i].cs)[j]?
/-- A script among the arguments. -/
structure Script (B : Nat) (w : World) (ad : Option Addr) (os : List OP) : Prop where
  at_ : OpsAt w ad os
  lt : os ≠ [] → ∀ b o, ad = some ⟨b, o, none⟩ → b < B
  ok : ∀ o ∈ os, o.Ok
  lie : ∀ o ∈ os, o.Lie B w
  len : os.length ≤ maxLen
theorem Script.below {B : Nat} {w w' : World} {ad : Option Addr} {os : List OP} (h : Script B w ad os) (hb : Below B w w') : Script B w' ad os := by
  refine ⟨?_, h.lt, h.ok, fun o ho => (h.lie o ho).below hb, h.len⟩
  rcases h.at_ with x | ⟨b, o, ha, hlt, hc⟩
  · exact .inl x
  · refine .inr ⟨b, o, ha, Nat.lt_of_lt_of_le hlt hb.size, fun i hi j hj => ?_⟩
    rw [← hc i hi j hj]
    exact World.cell?_of_block (hb.block b (h.lt (fun e => by rw [e] at hi; simp at hi) b o ha))
/-- The cells of one step. -/
theorem Script.cells {B : Nat} {w : World} {ad : Option Addr} {os : List OP} (h : Script B w ad os) {k : Nat} (hk : k < os.length) : ∃ b o, ad = some ⟨b, o, none⟩ ∧ ∀ j, j < 8 → w.cell? ⟨b, o + k * 8 + j, none⟩ = (os[k].cs)[j]? := by
  rcases h.at_ with x | ⟨b, o, ha, hlt, hc⟩
  · rw [x] at hk; simp at hk
  · exact ⟨b, o, ha, fun j hj => hc k hk j hj⟩
def playD (A : AD) (os : List OP) : AD := os.foldl (fun A o => (A.step o).2) A
def madeD (os : List OP) : AD := (((playD (AD.fresh 100000) os).on).armed 0 0).fallen 0
theorem playD_snoc (A : AD) (os : List OP) (k : Nat) (h : k < os.length) : playD A (os.take (k + 1)) = ((playD A (os.take k)).step os[k]).2 := by
  unfold playD
  rw [take_snoc os k h, List.foldl_append]
  rfl
set_option maxRecDepth 5000 in
set_option maxHeartbeats 1000000 in
theorem made_any (w : World) (ad : Option Addr) (cap : Nat) (os : List OP) (h : Script w.heap.size w ad os) :
    Calls Try.prog 7 #[.slice ad os.length cap] w fun e w' => ∃ p, e = .returned (.pointer (some ⟨p, 0, none⟩)) ∧ Lies w.heap.size w' [.disk p (madeD os)] ∧ Below w.heap.size w w' := by
  have HS := hide h
  have hlen := h.len
  unfold maxLen at hlen
  have hnew := new_good w 100000 (by decide) (by decide)
  clear h
  obtain ⟨B, hB⟩ : ∃ B, w.heap.size = B := ⟨_, rfl⟩
  obtain ⟨p, hp⟩ : ∃ p, w.heap.size + 1 = p := ⟨_, rfl⟩
  rw [hp] at hnew
  have HBE := hide hB
  have HP := hide hp
  rw [hB] at hnew HS ⊢
  clear hB hp
  go_enter Try.func7, Try.ntmps7
  go_wp2_with fail
  refine hnew.mono ?_
  rintro e w1 ⟨rfl, hd1, hb1⟩
  clear hnew
  have hl0 : Lies B w [] := Lies.nil (by rw [HBE.out]; exact Nat.le_refl _)
  have hl1 : Lies B w1 [.disk p (AD.fresh 100000)] := hl0.push (S' := foot p B (fun _ => FC.void) (AD.fresh 100000).fs) (by rw [HBE.out]; exact hb1) ⟨B, _, hd1, fun _ => Iff.rfl⟩ (by
    rintro b (rfl | rfl | ⟨k, F, hk, _⟩)
    · rw [← HP.out]; omega
    · rw [HBE.out]; exact Nat.le_refl _
    · simp [AD.fresh, fget] at hk)
  have HL1 := hide hl1
  have HB1 := hide hb1
  clear hl0 hl1 hd1 hb1
  go_wp2
  go_loopw [5] (fun i wr => ∃ k : Nat, k ≤ os.length ∧ i = .int .i64 (k : Int) ∧ Lies B wr [.disk p (playD (AD.fresh 100000) (os.take k))] ∧ Below B w wr) (fun i _ => os.length - (intOf i).toNat)
  case atStart => exact ⟨0, by omega, rfl, HL1.out, HB1.out⟩
  case round =>
    obtain ⟨k, hk, rfl, hlr, hbr⟩ := hrel
    by_cases hlt : k < os.length
    · have dk : decide ((k : Int) < (os.length : Int)) = true := decide_eq_true (by omega)
      have hk0 : (0 : Int) ≤ (k : Int) := by omega
      have hk1 : (k : Int) < (os.length : Int) := by omega
      have hsr := HS.out.below hbr
      obtain ⟨b, o, rfl, hcs⟩ := hsr.cells hlt
      obtain ⟨x, hx⟩ : ∃ x, os[k] = x := ⟨_, rfl⟩
      rw [hx] at hcs
      have hxm : x ∈ os := by rw [← hx]; exact List.getElem_mem hlt
      have hcall := step_any (i := 0) hlr rfl x (hsr.ok x hxm) (hsr.lie x hxm)
      unfold OP.cs at hcall
      have f0 : wr.cell? ⟨b, o + k * 8, none⟩ = some (.int .i64 x.kind) := hcs 0 (by omega)
      have f1 : wr.cell? ⟨b, o + k * 8 + 1, none⟩ = some (.bool x.two) := hcs 1 (by omega)
      have f2 : wr.cell? ⟨b, o + k * 8 + 2, none⟩ = some (.string x.name) := hcs 2 (by omega)
      have f3 : wr.cell? ⟨b, o + k * 8 + 3, none⟩ = some (.string x.to) := hcs 3 (by omega)
      have f4 : wr.cell? ⟨b, o + k * 8 + 4, none⟩ = some (.int .i64 x.at_) := hcs 4 (by omega)
      have f5 : wr.cell? ⟨b, o + k * 8 + 5, none⟩ = some (.int .i64 x.n) := hcs 5 (by omega)
      have f6 : wr.cell? ⟨b, o + k * 8 + 6, none⟩ = some (.string x.text) := hcs 6 (by omega)
      have f7 : wr.cell? ⟨b, o + k * 8 + 7, none⟩ = some (.slice x.ad x.fates.length x.cap) := hcs 7 (by omega)
      have HBR := hide hbr
      have HX := hide hx
      clear hcs hsr hlr hbr hx hxm
      go_wp2_with fail
      refine hcall.mono ?_
      rintro e w2 ⟨rfl, h2, hb2⟩
      clear hcall f0 f1 f2 f3 f4 f5 f6 f7
      go_wp2
      go_roundw
      case rel => exact ⟨k + 1, by omega, by go_num, by rw [playD_snoc _ _ _ hlt, HX.out]; exact h2, HBR.out.trans hb2⟩
      case measure => simp [intOf]; omega
    · have hkl : k = os.length := by omega
      subst hkl
      have dk : decide ((os.length : Int) < (os.length : Int)) = false := decide_eq_false (by omega)
      rw [List.take_length] at hlr
      have hcall := s_on (i := 0) hlr rfl
      have HBR := hide hbr
      clear hlr hbr
      go_wp2_with fail
      refine hcall.mono ?_
      rintro e w2 ⟨rfl, h2, hb2⟩
      have hcall2 := s_arm (i := 0) h2 rfl 0 0 (by decide)
      have HB2 := hide hb2
      clear hcall h2 hb2
      go_wp2_with fail
      refine hcall2.mono ?_
      rintro e w3 ⟨rfl, h3, hb3⟩
      have hcall3 := s_fall (i := 0) h3 rfl 0 (by decide)
      have HB3 := hide hb3
      clear hcall2 h3 hb3
      go_wp2_with fail
      refine hcall3.mono ?_
      rintro e w4 ⟨rfl, h4, hb4⟩
      clear hcall3
      go_wp2
      go_ret
      exact ⟨p, rfl, h4, HBR.out.trans (HB2.out.trans (HB3.out.trans hb4))⟩
end Go.Proofs.Ytcmhfpiglacdaaa
