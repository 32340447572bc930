import Derived.Test.YtlkimfmilccanaaGreatHeap
/-
  The statements' own helpers: lists of texts and numbers held against one another.
-/
namespace Go.Proofs.YtlkimfmilccanaaGreat
open Go.RowKit Go.Maps Go.WideMaps
set_option linter.unusedVariables false
set_option linter.unusedSimpArgs false
/-- A slice's elements, of one cell each. -/
def RowAt (w : World) (ad : Option Addr) (xs : List Value) : Prop := xs = [] ∨ ∃ b o, ad = some ⟨b, o, none⟩ ∧ b < w.heap.size ∧ ∀ i, i < xs.length → w.cell? ⟨b, o + i, none⟩ = xs[i]?
theorem row_at {w : World} {base e n : Nat} {v : Value} {xs : List Value} (h : w.ownsRow base e 1 v n xs) : ∃ ad cap, v = .slice ad n cap ∧ RowAt w ad xs ∧ xs.length = n ∧ n ≤ maxLen := by
  have hl := h.1
  rw [Nat.mul_one] at hl
  rcases h.2 with ⟨rfl, hn⟩ | ⟨g, cap, cur, rfl, hb, hg, hnc, hcm, rest⟩
  · subst hn
    exact ⟨none, 0, rfl, .inl (List.length_eq_zero_iff.1 hl), hl, Nat.zero_le _⟩
  · refine ⟨_, cap, rfl, .inr ⟨g, 0, rfl, lt_of_some hg, fun i hi => ?_⟩, hl, by omega⟩
    have := World.ownsRow.cells h (g := g) rfl i xs[i] (List.getElem?_eq_getElem hi)
    rw [List.getElem?_eq_getElem hi, ← this]
    congr 1
    unfold Addr.add
    split <;> simp_all
theorem RowAt.same {w w' : World} {ad : Option Addr} {xs : List Value} (h : RowAt w ad xs) {S : Nat → Prop} (t : Turn S w w') (hn : ∀ b o, ad = some ⟨b, o, none⟩ → ¬ S b) : RowAt w' ad xs := by
  rcases h with h | ⟨b, o, ha, hlt, hc⟩
  · exact .inl h
  · refine .inr ⟨b, o, ha, Nat.lt_of_lt_of_le hlt t.size, fun i hi => ?_⟩
    rw [← hc i hi]
    exact World.cell?_of_block (t.block b hlt (hn b o ha))
theorem toList_beq (a b : ByteArray) : (a.toList == b.toList) = (a.data.toList == b.data.toList) := by rw [ByteArray.toList_eq, ByteArray.toList_eq]
theorem take_all_ne {α : Type} [BEq α] [LawfulBEq α] {l : List α} {k : Nat} {x : α} (h : (l.take k).contains x = false) (hk : k < l.length) (hx : (l[k] == x) = false) : (l.take (k + 1)).contains x = false := by
  rw [List.take_succ_eq_append_getElem hk, List.contains_append, h]
  simp only [List.contains_cons, List.contains_nil, Bool.or_false, Bool.false_or]
  rw [← hx]
  exact Bool.eq_iff_iff.2 ⟨fun e => beq_iff_eq.2 (beq_iff_eq.1 e).symm, fun e => beq_iff_eq.2 (beq_iff_eq.1 e).symm⟩
theorem contains_at {α : Type} [BEq α] [LawfulBEq α] {l : List α} {k : Nat} {x : α} (hk : k < l.length) (hx : (l[k] == x) = true) : l.contains x = true := by
  rw [List.contains_iff_mem, ← beq_iff_eq.1 hx]; exact List.getElem_mem hk
set_option maxRecDepth 5000 in
set_option maxRecDepth 5000 in
theorem drewN_below {B : Nat} {w w1 : World} (h : Below B w w1) (n : Nat) : Below B w (w1.drewN n) := ⟨h.os, h.tape, h.output, h.size, h.block⟩
theorem take_eq_succ {α : Type} {a b : List α} {k : Nat} (h : a.take k = b.take k) (ha : k < a.length) (hb : k < b.length) (hx : a[k] = b[k]) : a.take (k + 1) = b.take (k + 1) := by
  rw [List.take_succ_eq_append_getElem ha, List.take_succ_eq_append_getElem hb, h, hx]
-- left out in this seat: sameTexts_any
-- left out in this seat: sameInts_any
end Go.Proofs.YtlkimfmilccanaaGreat
/-
  The statements' own helpers: all, text, step, made.
-/
namespace Go.Proofs.YtlkimfmilccanaaGreat
open Go.RowKit Go.Maps Go.WideMaps
set_option linter.unusedVariables false
set_option linter.unusedSimpArgs false
def AD.all (A : AD) (k : Key) : Key := (A.read k 0 1048576).1
/-- One step of a script. -/
structure OP where
  kind : Int
  two : Bool
  name : ByteArray
  to : ByteArray
  at_ : Int
  n : Int
  text : ByteArray
  ad : Option Addr
  fates : List FT
  cap : Nat
def OP.cs (o : OP) : Array Value := #[.int .i64 o.kind, .bool o.two, .string o.name, .string o.to, .int .i64 o.at_, .int .i64 o.n, .string o.text, .slice o.ad o.fates.length o.cap]
structure OP.Ok (o : OP) : Prop where
  name : o.name.size ≤ maxLen
  to : o.to.size ≤ maxLen
  a0 : -9223372036854775808 ≤ o.at_
  a1 : o.at_ < 9223372036854775808
  n0 : -9223372036854775808 ≤ o.n
  n1 : o.n < 9223372036854775808
  text : o.text.size ≤ 140737488355328
  fates : ∀ x ∈ o.fates, x.Ok
  len : o.fates.length ≤ 9223372036854775807
/-- Where its fates lie. -/
theorem FatesAt.later {B : Nat} {w w' : World} {ad : Option Addr} {ls : List FT} (h : FatesAt w ad ls) (hb : Below B w w') (hB : ls ≠ [] → ∀ b o, ad = some ⟨b, o, none⟩ → b < B) : FatesAt w' ad ls := by
  by_cases he : ls = []
  · exact .inl he
  · exact h.below hb (hB he)
structure OP.Lie (B : Nat) (w : World) (o : OP) : Prop where
  at_ : FatesAt w o.ad o.fates
  lt : o.fates ≠ [] → ∀ b f, o.ad = some ⟨b, f, none⟩ → b < B
theorem OP.Lie.below {B : Nat} {w w' : World} {o : OP} (h : o.Lie B w) (hb : Below B w w') : o.Lie B w' := ⟨h.at_.later hb h.lt, h.lt⟩
def AD.step (A : AD) (o : OP) : Int × AD :=
  if o.kind = 1 then A.write o.name.data.toList o.at_ o.text.data.toList
  else if o.kind = 2 then A.sync o.name.data.toList
  else if o.kind = 3 then A.trunc o.name.data.toList o.n
  else if o.kind = 4 then A.rename o.name.data.toList o.to.data.toList
  else if o.kind = 5 then A.remove o.name.data.toList
  else if o.kind = 7 then (0, A.armed o.n o.at_)
  else if o.kind = 11 then (0, A.fallen o.n)
  else if o.kind = 8 then (0, A.crash (o.fates.map FT.abs))
  else if o.kind = 9 then (0, A.on)
  else (0, A)
theorem set_same {α : Type} {L : List α} {i : Nat} {x : α} (h : L[i]? = some x) : L.set i x = L := by
  obtain ⟨hl, rfl⟩ := List.getElem?_eq_some_iff.1 h
  exact List.set_getElem_self hl
def OpsAt (w : World) (ad : Option Addr) (os : List OP) : Prop := os = [] ∨ ∃ b o, ad = some ⟨b, o, none⟩ ∧ b < w.heap.size ∧ ∀ i (h : i < os.length) j, j < 8 → w.cell? ⟨b, o + i * 8 + j, none⟩ = (os[i].cs)[j]?
/-- A script among the arguments. -/
structure Script (B : Nat) (w : World) (ad : Option Addr) (os : List OP) : Prop where
  at_ : OpsAt w ad os
  lt : os ≠ [] → ∀ b o, ad = some ⟨b, o, none⟩ → b < B
  ok : ∀ o ∈ os, o.Ok
  lie : ∀ o ∈ os, o.Lie B w
  len : os.length ≤ maxLen
theorem Script.below {B : Nat} {w w' : World} {ad : Option Addr} {os : List OP} (h : Script B w ad os) (hb : Below B w w') : Script B w' ad os := by
  refine ⟨?_, h.lt, h.ok, fun o ho => (h.lie o ho).below hb, h.len⟩
  rcases h.at_ with x | ⟨b, o, ha, hlt, hc⟩
  · exact .inl x
  · refine .inr ⟨b, o, ha, Nat.lt_of_lt_of_le hlt hb.size, fun i hi j hj => ?_⟩
    rw [← hc i hi j hj]
    exact World.cell?_of_block (hb.block b (h.lt (fun e => by rw [e] at hi; simp at hi) b o ha))
/-- The cells of one step. -/
theorem Script.cells {B : Nat} {w : World} {ad : Option Addr} {os : List OP} (h : Script B w ad os) {k : Nat} (hk : k < os.length) : ∃ b o, ad = some ⟨b, o, none⟩ ∧ ∀ j, j < 8 → w.cell? ⟨b, o + k * 8 + j, none⟩ = (os[k].cs)[j]? := by
  rcases h.at_ with x | ⟨b, o, ha, hlt, hc⟩
  · rw [x] at hk; simp at hk
  · exact ⟨b, o, ha, fun j hj => hc k hk j hj⟩
def playD (A : AD) (os : List OP) : AD := os.foldl (fun A o => (A.step o).2) A
def madeD (os : List OP) : AD := (((playD (AD.fresh 100000) os).on).armed 0 0).fallen 0
theorem playD_snoc (A : AD) (os : List OP) (k : Nat) (h : k < os.length) : playD A (os.take (k + 1)) = ((playD A (os.take k)).step os[k]).2 := by
  unfold playD
  rw [take_snoc os k h, List.foldl_append]
  rfl
end Go.Proofs.YtlkimfmilccanaaGreat
/-
  The statements' own helper: text.
-/
namespace Go.Proofs.YtlkimfmilccanaaGreat
open Go.RowKit Go.Maps Go.WideMaps
set_option linter.unusedVariables false
set_option linter.unusedSimpArgs false
theorem set_fill (c : UInt8) (n k : Nat) (h : k < n) : (List.replicate k c ++ List.replicate (n - k) (0 : UInt8)).set k c = List.replicate (k + 1) c ++ List.replicate (n - (k + 1)) 0 := by
  obtain ⟨m, rfl⟩ : ∃ m, n = k + 1 + m := ⟨n - (k + 1), by omega⟩
  rw [show k + 1 + m - k = m + 1 by omega, show k + 1 + m - (k + 1) = m by omega, List.set_append_right _ _ (by simp), List.length_replicate, Nat.sub_self, List.replicate_succ, List.set_cons_zero, List.replicate_succ']
  simp
theorem Bytes.stored {w : World} {g n cap : Nat} {l : List UInt8} (h : Bytes w 0 (.slice (some ⟨g, 0, none⟩) n cap) l) (hn : l.length = n) (j : Nat) (c : UInt8) : Bytes (w.setCell ⟨g, j, none⟩ (.int .u8 (c.toNat : Int))) 0 (.slice (some ⟨g, 0, none⟩) n cap) (l.set j c) := by
  subst hn
  have := (World.ownsRow.stored h j (.int .u8 (c.toNat : Int))).1
  unfold Bytes
  rw [List.length_set, List.map_set]
  exact this
-- left out in this seat: text_any
end Go.Proofs.YtlkimfmilccanaaGreat
/-
  The statements' own helper: first.
-/
namespace Go.Proofs.YtlkimfmilccanaaGreat
open Go.RowKit Go.Maps Go.WideMaps
set_option linter.unusedVariables false
set_option linter.unusedSimpArgs false
def kA : Key := [97]
def kB : Key := [98]
def FA0 : AD := AD.fresh 1000
def FA1 : AD := (FA0.write kA 0 [104, 101, 108, 108, 111]).2
def FA2 : AD := (FA1.sync kA).2
def FA3 : AD := (FA2.write kA 5 [32, 121, 111, 117]).2
def FA4 : AD := (FA3.write kB 0 (List.replicate 200 120)).2
def fts : List FT := [⟨⟨#[98]⟩, 1, 1, ⟨#[]⟩⟩, ⟨⟨#[98]⟩, 2, 2, ⟨#[121, 121]⟩⟩]
def FA5 : AD := FA4.crash (fts.map FT.abs)
def FA6 : AD := FA5.on
theorem v1 : (FA0.write kA 0 [104, 101, 108, 108, 111]).1 = 0 := by decide +kernel
theorem v2 : (FA1.sync kA).1 = 0 := by decide +kernel
theorem v3 : (FA2.write kA 5 [32, 121, 111, 117]).1 = 0 := by decide +kernel
theorem v4 : (FA3.write kB 0 (List.replicate 200 120)).1 = 0 := by decide +kernel
theorem v5 : (FA5.read kA 0 9).2 = 9 := by decide +kernel
theorem v6 : FA5.pow.off = true := by decide +kernel
theorem v7 : FA6.read kA 0 9 = ([104, 101, 108, 108, 111], 0) := by decide +kernel
theorem v8 : FA6.size kB = (192, 0) := by decide +kernel
theorem v9 : FA6.read kB 63 68 = ([0] ++ List.replicate 64 120 ++ [121, 121, 0], 0) := by decide +kernel
theorem v10 : FA6.list = [kA, kB] := by decide +kernel
theorem v11 : FA6.dirtyI kB = [] := by decide +kernel
theorem v12 : (fused FA6.fs : Int) = 197 := by decide +kernel
section
variable {B : Nat} {w : World} {p : Nat}
theorem c1 (h : Lies B w [.disk p FA0]) : Calls Tryz.prog 18 #[.pointer (some ⟨p, 0, none⟩), .string ⟨#[97]⟩, .int .i64 0, .string ⟨#[104, 101, 108, 108, 111]⟩] w fun e w' => e = .returned (.int .i64 0) ∧ Lies B w' [.disk p FA1] ∧ Below B w w' :=
  (s_write (i := 0) h rfl ⟨#[97]⟩ (by decide) 0 (by decide) ⟨#[104, 101, 108, 108, 111]⟩ (by decide)).mono (fun e w' ⟨he, hl, hb⟩ => ⟨he.trans (ret_int v1), hl, hb⟩)
theorem c2 (h : Lies B w [.disk p FA1]) : Calls Tryz.prog 39 #[.pointer (some ⟨p, 0, none⟩), .string ⟨#[97]⟩] w fun e w' => e = .returned (.int .i64 0) ∧ Lies B w' [.disk p FA2] ∧ Below B w w' :=
  (s_sync (i := 0) h rfl ⟨#[97]⟩ (by decide)).mono (fun e w' ⟨he, hl, hb⟩ => ⟨he.trans (ret_int v2), hl, hb⟩)
theorem c3 (h : Lies B w [.disk p FA2]) : Calls Tryz.prog 18 #[.pointer (some ⟨p, 0, none⟩), .string ⟨#[97]⟩, .int .i64 5, .string ⟨#[32, 121, 111, 117]⟩] w fun e w' => e = .returned (.int .i64 0) ∧ Lies B w' [.disk p FA3] ∧ Below B w w' :=
  (s_write (i := 0) h rfl ⟨#[97]⟩ (by decide) 5 (by decide) ⟨#[32, 121, 111, 117]⟩ (by decide)).mono (fun e w' ⟨he, hl, hb⟩ => ⟨he.trans (ret_int v3), hl, hb⟩)
theorem c4 (h : Lies B w [.disk p FA3]) (t : ByteArray) (ht : t = ⟨(List.replicate 200 120).toArray⟩) : Calls Tryz.prog 18 #[.pointer (some ⟨p, 0, none⟩), .string ⟨#[98]⟩, .int .i64 0, .string t] w fun e w' => e = .returned (.int .i64 0) ∧ Lies B w' [.disk p FA4] ∧ Below B w w' := by
  subst ht
  exact (s_write (i := 0) h rfl ⟨#[98]⟩ (by decide) 0 (by decide) ⟨(List.replicate 200 120).toArray⟩ (by decide +kernel)).mono (fun e w' ⟨he, hl, hb⟩ => ⟨he.trans (ret_int v4), hl, hb⟩)
def ftObj : Obj := .cells #[.string ⟨#[98]⟩, .int .i64 1, .int .i64 1, .string ⟨#[]⟩, .string ⟨#[98]⟩, .int .i64 2, .int .i64 2, .string ⟨#[121, 121]⟩] 140 (0, 0)
theorem fts_ok : ∀ x ∈ fts, x.Ok := by
  intro x hx
  simp only [fts, List.mem_cons, List.not_mem_nil, or_false] at hx
  rcases hx with rfl | rfl
  · exact ⟨by decide, by decide⟩
  · exact ⟨by decide, by decide⟩
theorem c5 {g : Nat} (h : Lies B w [.disk p FA4, .block g ftObj]) (hg : w.heap[g]? = some ftObj) : Calls Tryz.prog 25 #[.pointer (some ⟨p, 0, none⟩), .slice (some ⟨g, 0, none⟩) 2 2] w fun e w' => e = .returned (.tuple #[]) ∧ Lies B w' [.disk p FA5] ∧ Below B w w' := by
  refine (s_crashOwn (i := 0) (j := 1) h rfl (by decide) rfl 0 fts 2 (.inr ⟨g, 0, rfl, lt_of_some hg, fun i hi j hj => ?_⟩) fts_ok (by decide)).mono (fun e w' ⟨he, hl, hb⟩ => ⟨he, (show Lies B w' ([.disk p FA5] ++ [.block g ftObj]) from hl).drop, hb⟩)
  rw [cell_of_row w g _ _ _ (0, 0) hg]
  have hi' : i < 2 := hi
  match i, hi', j, hj with
  | 0, _, 0, _ => rfl
  | 0, _, 1, _ => rfl
  | 0, _, 2, _ => rfl
  | 0, _, 3, _ => rfl
  | 1, _, 0, _ => rfl
  | 1, _, 1, _ => rfl
  | 1, _, 2, _ => rfl
  | 1, _, 3, _ => rfl
theorem c6 (h : Lies B w [.disk p FA5]) : Calls Tryz.prog 12 #[.pointer (some ⟨p, 0, none⟩), .string ⟨#[97]⟩, .int .i64 0, .int .i64 9] w fun e w' => (∃ x, e = .returned (.tuple #[.string x, .int .i64 9])) ∧ Lies B w' [.disk p FA5] ∧ Below B w w' :=
  (s_read (i := 0) h rfl ⟨#[97]⟩ (by decide) 0 9).mono (fun e w' ⟨he, hl, hb⟩ => ⟨⟨_, he.trans (by rw [show (FA5.read ((⟨#[97]⟩ : ByteArray).data.toList) 0 9).2 = 9 from v5])⟩, hl, hb⟩)
theorem c7 (h : Lies B w [.disk p FA5]) : Calls Tryz.prog 28 #[.pointer (some ⟨p, 0, none⟩)] w fun e w' => e = .returned (.bool true) ∧ w' = w :=
  (s_off (i := 0) h rfl).mono (fun e w' ⟨he, hb⟩ => ⟨he.trans (by rw [v6]), hb⟩)
theorem c8 (h : Lies B w [.disk p FA5]) : Calls Tryz.prog 26 #[.pointer (some ⟨p, 0, none⟩)] w fun e w' => e = .returned (.tuple #[]) ∧ Lies B w' [.disk p FA6] ∧ Below B w w' :=
  s_on (i := 0) h rfl
theorem c9 (h : Lies B w [.disk p FA6]) : Calls Tryz.prog 12 #[.pointer (some ⟨p, 0, none⟩), .string ⟨#[97]⟩, .int .i64 0, .int .i64 9] w fun e w' => e = .returned (.tuple #[.string ⟨#[104, 101, 108, 108, 111]⟩, .int .i64 0]) ∧ Lies B w' [.disk p FA6] ∧ Below B w w' :=
  (s_read (i := 0) h rfl ⟨#[97]⟩ (by decide) 0 9).mono (fun e w' ⟨he, hl, hb⟩ => ⟨he.trans (by rw [show FA6.read ((⟨#[97]⟩ : ByteArray).data.toList) 0 9 = _ from v7]), hl, hb⟩)
theorem c10 (h : Lies B w [.disk p FA6]) : Calls Tryz.prog 32 #[.pointer (some ⟨p, 0, none⟩), .string ⟨#[98]⟩] w fun e w' => e = .returned (.tuple #[.int .i64 192, .int .i64 0]) ∧ w' = w :=
  (s_size (i := 0) h rfl ⟨#[98]⟩ (by decide)).mono (fun e w' ⟨he, hb⟩ => ⟨he.trans (by rw [show FA6.size ((⟨#[98]⟩ : ByteArray).data.toList) = _ from v8]), hb⟩)
theorem c11 (h : Lies B w [.disk p FA6]) : Calls Tryz.prog 12 #[.pointer (some ⟨p, 0, none⟩), .string ⟨#[98]⟩, .int .i64 63, .int .i64 68] w fun e w' => (∃ x : ByteArray, e = .returned (.tuple #[.string x, .int .i64 0]) ∧ x = ⟨(([0] ++ List.replicate 64 120 ++ [121, 121, 0] : List UInt8)).toArray⟩) ∧ Lies B w' [.disk p FA6] ∧ Below B w w' :=
  (s_read (i := 0) h rfl ⟨#[98]⟩ (by decide) 63 68).mono (fun e w' ⟨he, hl, hb⟩ => ⟨⟨_, he.trans (by rw [show FA6.read ((⟨#[98]⟩ : ByteArray).data.toList) 63 68 = _ from v9]), rfl⟩, hl, hb⟩)
theorem c12 (h : Lies B w [.disk p FA6]) : Calls Tryz.prog 33 #[.pointer (some ⟨p, 0, none⟩)] w fun e w' => ∃ ad cap, e = .returned (.slice ad 2 cap) ∧ RowAt w' ad ([kA, kB].map encStr) ∧ Lies B w' [.disk p FA6] ∧ Below B w w' := by
  refine (s_list (i := 0) h rfl).mono ?_
  rintro e w' ⟨v, rfl, hr, hl, hb⟩
  rw [v10] at hr
  obtain ⟨ad, cap, rfl, hr, _, _⟩ := row_at hr
  exact ⟨ad, cap, rfl, hr, hl.drop, hb⟩
theorem c13 (h : Lies B w [.disk p FA6]) : Calls Tryz.prog 14 #[.pointer (some ⟨p, 0, none⟩), .string ⟨#[98]⟩] w fun e w' => ∃ ad cap, e = .returned (.slice ad 0 cap) ∧ Lies B w' [.disk p FA6] ∧ Below B w w' := by
  refine (s_dirty (i := 0) h rfl ⟨#[98]⟩ (by decide)).mono ?_
  rintro e w' ⟨v, rfl, hr, hl, hb⟩
  rw [show FA6.dirtyI ((⟨#[98]⟩ : ByteArray).data.toList) = [] from v11] at hr
  obtain ⟨ad, cap, rfl, hr, _, _⟩ := row_at hr
  exact ⟨ad, cap, rfl, hl.drop, hb⟩
theorem c14 (h : Lies B w [.disk p FA6]) : Calls Tryz.prog 80 #[.pointer (some ⟨p, 0, none⟩)] w fun e w' => e = .returned (.int .i64 197) ∧ Lies B w' [.disk p FA6] ∧ Below B w w' :=
  (s_used (i := 0) h rfl).mono (fun e w' ⟨he, hl, hb⟩ => ⟨he.trans (ret_int v12), hl, hb⟩)
end
-- left out in this seat: first_any
end Go.Proofs.YtlkimfmilccanaaGreat
/-
  Lists of the caller's own: grown, written.
-/
namespace Go.Proofs.YtlkimfmilccanaaGreat
open Go.RowKit Go.Maps Go.WideMaps
set_option linter.unusedVariables false
set_option linter.unusedSimpArgs false
section
variable {t e : TypeId} {z : Value} {by_ : Nat}
/-- append(v, x...) onto a list of the caller's own, of one cell an element. -/
theorem run_append_rows (ht : Tryz.prog.underlying t = some (.slice e)) (hinf : (Tryz.prog.info? e).map (fun i => (i.zero, i.size, i.bytes)) = some (some z, 1, by_)) (hzc : z.cells.size = 1) (hby : 1 ≤ by_)
    (w : World) (ty tx : TypeId) (v : Value) (l news : List Value) (hown : w.ownsRow 0 e 1 v l.length l) (x : Value) (hs : Src Tryz.prog 1 tx x news.length news w) (hlen : (l.length + news.length) * by_ ≤ 140737488355328) :
    ∃ v' w', (Builtin.append_ #[t, tx] ty #[v, x]).run Tryz.prog w = .ok v' w' ∧ w'.ownsRow 0 e 1 v' (l ++ news).length (l ++ news) ∧ Mv w v w' v' := by
  obtain ⟨i, hi, hz0, hz1, hz2⟩ := info_parts hinf
  rw [← hz1] at hs
  have hlen0 : l.length + news.length ≤ 140737488355328 := Nat.le_trans (Nat.le_mul_of_pos_right _ hby) hlen
  by_cases hn : news = []
  · subst hn
    have hh := hown.2
    rcases hh with ⟨rfl, hl⟩ | ⟨g, cap, cur, rfl, hb, hg, hnc, hcm, hcs, htake⟩
    · exact ⟨_, _, run_append_nothing (P := Tryz.prog) w t tx ty e i ht hi none 0 0 (Nat.le_refl _) x hs, by rw [List.append_nil]; exact hown, Mv.refl _ _⟩
    · exact ⟨_, _, run_append_nothing (P := Tryz.prog) w t tx ty e i ht hi (some ⟨g, 0, none⟩) l.length cap hnc x hs, by rw [List.append_nil]; exact hown, Mv.refl _ _⟩
  have hpos : 0 < news.length := List.length_pos_iff.2 hn
  have grown : ∀ (old : Nat), old < l.length + news.length →
      (w.drew.alloc (.cells ((l ++ news).toArray ++ Builtin.zeroCells z.cells (grownCap w (l.length + news.length) old e - (l.length + news.length))) e)).ownsRow 0 e 1
        (.slice (some ⟨w.heap.size, 0, none⟩) (l.length + news.length) (grownCap w (l.length + news.length) old e)) (l ++ news).length (l ++ news) ∧
      ∀ row : Option Nat, w.grownBy (w.drew.alloc (.cells ((l ++ news).toArray ++ Builtin.zeroCells z.cells (grownCap w (l.length + news.length) old e - (l.length + news.length))) e)) row := by
    intro old ho
    have hge := grownCap_ge w (l.length + news.length) old e
    have hcm : grownCap w (l.length + news.length) old e ≤ maxLen := grownCap_le_maxLen w _ old e (by unfold maxLen; omega)
    refine ⟨?_, fun row => ⟨rfl, rfl, rfl, by simp, fun k hk _ => Below.heap_alloc w.drew _ k hk⟩⟩
    rw [List.length_append]
    refine ⟨by simp, .inr ⟨w.heap.size, _, _, rfl, Nat.zero_le _, heap_alloc_new w.drew _, hge, hcm, ?_, ?_⟩⟩
    · simp only [Array.size_append, List.size_toArray, size_zeroCells, List.length_append]
      rw [hzc]
      omega
    · rw [Array.toList_append]
      have e : (l.length + news.length) * 1 = (l ++ news).length := by simp
      rw [e]
      exact List.take_left
  have hh := hown.2
  rcases hh with ⟨rfl, hl⟩ | ⟨g, cap, cur, rfl, hb, hg, hnc, hcm, hcs, htake⟩
  · have hl0 : l = [] := List.length_eq_zero_iff.1 hl
    subst hl0
    have hr := run_append_grow_src (P := Tryz.prog) w t tx ty e i z ht hi hz0 none 0 0 [] (run_firstCells_none w.drew i.size 0 0 0) x news.length news hs (by omega) (by omega) (by
      rw [hz2, Nat.zero_add, nextslicecap_zero hpos]; simp only [List.length_nil, Nat.zero_add] at hlen; omega)
    obtain ⟨g1, g2⟩ := grown 0 (by omega)
    simp only [List.length_nil, Nat.zero_add, List.nil_append] at g1 g2 hr
    refine ⟨_, _, hr, by simpa using g1, g2 _, fun g' hg' => .inr ?_⟩
    have e : g' = w.heap.size := by simpa [Value.ownBlock] using hg'.symm
    omega
  · have hc := World.ownsRow.cells hown (g := g) rfl
    by_cases hroom : l.length + news.length ≤ cap
    · have hst := run_storeCells_at Tryz.prog g (l.length * i.size) e news 0 cur w hg (by simp [hz1]; omega) hs.one
      rw [Nat.add_zero] at hst
      have hr : (Builtin.append_ #[t, tx] ty #[.slice (some ⟨g, 0, none⟩) l.length cap, x]).run Tryz.prog w = .ok (.slice (some ⟨g, 0, none⟩) (l.length + news.length) cap) (w.setRow g (cur.toList.take (l.length * i.size) ++ news ++ cur.toList.drop (l.length * i.size + news.length)).toArray) := by
        rcases hs.kind with ⟨e', hk⟩ | hk <;> simp [Builtin.append_, run_underlying ht, run_underlying hk, sizeOf, typeInfo, hi, hs.len, hroom, hs.cells, Addr.add_lit, hst]
      refine ⟨_, _, hr, ?_, ⟨rfl, rfl, rfl, by simp, fun k _ hk => setRow_other w g k _ (fun e => hk (by simp [Value.ownBlock, e]))⟩, fun g' hg' => .inl ?_⟩
      · rw [List.length_append]
        refine ⟨by simp, .inr ⟨g, cap, _, rfl, hb, setRow_heap w g cur _ e _ hg, hroom, hcm, ?_, ?_⟩⟩
        · simp only [List.size_toArray, List.length_append, List.length_take, List.length_drop, Array.length_toList, hz1]
          omega
        · rw [hz1, htake]
          have e : (l.length + news.length) * 1 = (l ++ news).length := by simp
          rw [e]
          exact List.take_left
      · simpa [Value.ownBlock] using hg'
    · have hr := run_append_grow_src (P := Tryz.prog) w t tx ty e i z ht hi hz0 (some ⟨g, 0, none⟩) l.length cap l (by
        have := run_firstCells_some (P := Tryz.prog) w.drew i.size l.length ⟨g, 0, none⟩ l.length cap l (by simp [hz1]) hc
        exact this) x news.length news hs (by omega) (by omega) (growslice_fits (by omega) (by rw [hz2]; omega))
      obtain ⟨g1, g2⟩ := grown cap (by omega)
      refine ⟨_, _, hr, g1, g2 _, fun g' hg' => .inr ?_⟩
      have e : g' = w.heap.size := by simpa [Value.ownBlock] using hg'.symm
      omega
/-- What a list yields. -/
theorem src_row {tx : TypeId} (hk : Tryz.prog.underlying tx = some (.slice e)) {w : World} {x : Value} {news : List Value} (h : w.ownsRow 0 e 1 x news.length news) (h1 : ∀ u ∈ news, u.oneCell' = true) : Src Tryz.prog 1 tx x news.length news w := by
  have hh := h.2
  rcases hh with ⟨rfl, hl⟩ | ⟨g, cap, cur, rfl, hb, hg, rest⟩
  · have : news = [] := List.length_eq_zero_iff.1 hl
    subst this
    exact Src.ofNil w hk 0
  · exact Src.ofSlice w hk ⟨g, 0, none⟩ news.length cap news (by simp) (World.ownsRow.cells h rfl) h1
end
section
variable {B : Nat} {w : World} {L : List Item} {i : Nat} {e : TypeId} {v : Value} {xs : List Value}
theorem Lies.rowOf (h : Lies B w L) (hi : L[i]? = some (.row e v xs)) : w.ownsRow 0 e 1 v xs.length xs := by
  obtain ⟨S, hp, _⟩ := h.get hi
  exact hp.1
theorem Lies.pushNil (h : Lies B w L) (e : TypeId) : Lies B w (L ++ [.row e (.slice none 0 0) []]) :=
  h.push (S' := fun b => (Value.slice none 0 0).ownBlock = some b) (Below.refl _ _) ⟨World.ownsRow_nil w 0 e 1, fun _ => Iff.rfl⟩ (fun b hb => by simp [Value.ownBlock] at hb)
/-- One of the lists has grown, or was moved. -/
theorem Lies.moved {w' : World} {v' : Value} {ys : List Value} (h : Lies B w L) (hi : L[i]? = some (.row e v xs)) (hr : w'.ownsRow 0 e 1 v' ys.length ys) (hm : Mv w v w' v') : Lies B w' (L.set i (.row e v' ys)) ∧ Below B w w' := by
  obtain ⟨S, hp, hB, hap, hk⟩ := h.upd hi
  refine hk w' _ (fun b => v'.ownBlock = some b) ⟨hr, fun _ => Iff.rfl⟩ ⟨⟨hm.gr.os, hm.gr.tape, hm.gr.output, hm.gr.size, fun b hb hn => hm.gr.block b hb (fun x => hn ((hp.2 b).2 x.symm))⟩, fun b hb => ?_⟩
  rcases hm.own b hb with x | x
  · exact .inl ((hp.2 b).2 x)
  · exact .inr x
theorem own_form {n cap : Nat} {ad : Option Addr} (h : w.ownsRow 0 e 1 (.slice ad n cap) n xs) (hn : 0 < n) : ∃ g, ad = some ⟨g, 0, none⟩ := by
  rcases h.2 with ⟨h1, h2⟩ | ⟨g, cp, cur, h1, _⟩
  · omega
  · simp only [Value.slice.injEq] at h1
    exact ⟨g, h1.1⟩
theorem Lies.store {g n cap : Nat} (h : Lies B w L) (hi : L[i]? = some (.row e (.slice (some ⟨g, 0, none⟩) n cap) xs)) (hn : xs.length = n) (j : Nat) (u : Value) :
    Lies B (w.setCell ⟨g, j, none⟩ u) (L.set i (.row e (.slice (some ⟨g, 0, none⟩) n cap) (xs.set j u))) ∧ Below B w (w.setCell ⟨g, j, none⟩ u) := by
  subst hn
  obtain ⟨h1, h2⟩ := World.ownsRow.stored (h.rowOf hi) j u
  have h1' : (w.setCell ⟨g, j, none⟩ u).ownsRow 0 e 1 (.slice (some ⟨g, 0, none⟩) xs.length cap) (xs.set j u).length (xs.set j u) := by rw [List.length_set]; exact h1
  exact h.moved hi h1' ⟨h2, fun _ hx => .inl hx⟩
end
theorem info3' : (Tryz.prog.info? 3).map (fun i => (i.zero, i.size, i.bytes)) = some (some (.int .i64 0), 1, 8) := by kernel_rfl
theorem info9' : (Tryz.prog.info? 9).map (fun i => (i.zero, i.size, i.bytes)) = some (some (.string ⟨#[]⟩), 1, 16) := by kernel_rfl
def fillTo (xs : List Value) (k : Nat) (x : Value) : List Value := List.replicate k x ++ xs.drop k
theorem fillTo_zero (xs : List Value) (x : Value) : fillTo xs 0 x = xs := rfl
theorem fillTo_length (xs : List Value) (k : Nat) (x : Value) (h : k ≤ xs.length) : (fillTo xs k x).length = xs.length := by simp [fillTo]; omega
theorem fillTo_all (xs : List Value) (x : Value) : fillTo xs xs.length x = List.replicate xs.length x := by simp [fillTo]
theorem fillTo_set (xs : List Value) (k : Nat) (x : Value) (h : k < xs.length) : (fillTo xs k x).set k x = fillTo xs (k + 1) x := by
  unfold fillTo
  rw [List.set_append_right _ _ (by simp), List.length_replicate, Nat.sub_self, List.drop_eq_getElem_cons h, List.set_cons_zero, List.replicate_succ']
  simp
end Go.Proofs.YtlkimfmilccanaaGreat
