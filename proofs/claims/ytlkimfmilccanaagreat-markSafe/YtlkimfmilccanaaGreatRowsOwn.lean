import Derived.Test.YtlkimfmilccanaaGreatText
/-
  The statements' own helper: first.
-/
namespace Go.Proofs.YtlkimfmilccanaaGreat
open Go.RowKit Go.Maps Go.WideMaps
set_option linter.unusedVariables false
set_option linter.unusedSimpArgs false
def kA : Key := [97]
def kB : Key := [98]
def FA0 : AD := AD.fresh 1000
def FA1 : AD := (FA0.write kA 0 [104, 101, 108, 108, 111]).2
def FA2 : AD := (FA1.sync kA).2
def FA3 : AD := (FA2.write kA 5 [32, 121, 111, 117]).2
def FA4 : AD := (FA3.write kB 0 (List.replicate 200 120)).2
def fts : List FT := [⟨⟨#[98]⟩, 1, 1, ⟨#[]⟩⟩, ⟨⟨#[98]⟩, 2, 2, ⟨#[121, 121]⟩⟩]
def FA5 : AD := FA4.crash (fts.map FT.abs)
def FA6 : AD := FA5.on
theorem v1 : (FA0.write kA 0 [104, 101, 108, 108, 111]).1 = 0 := by decide +kernel
theorem v2 : (FA1.sync kA).1 = 0 := by decide +kernel
theorem v3 : (FA2.write kA 5 [32, 121, 111, 117]).1 = 0 := by decide +kernel
theorem v4 : (FA3.write kB 0 (List.replicate 200 120)).1 = 0 := by decide +kernel
theorem v5 : (FA5.read kA 0 9).2 = 9 := by decide +kernel
theorem v6 : FA5.pow.off = true := by decide +kernel
theorem v7 : FA6.read kA 0 9 = ([104, 101, 108, 108, 111], 0) := by decide +kernel
theorem v8 : FA6.size kB = (192, 0) := by decide +kernel
theorem v9 : FA6.read kB 63 68 = ([0] ++ List.replicate 64 120 ++ [121, 121, 0], 0) := by decide +kernel
theorem v10 : FA6.list = [kA, kB] := by decide +kernel
theorem v11 : FA6.dirtyI kB = [] := by decide +kernel
theorem v12 : (fused FA6.fs : Int) = 197 := by decide +kernel
section
variable {B : Nat} {w : World} {p : Nat}
theorem c1 (h : Lies B w [.disk p FA0]) : Calls Tryz.prog 18 #[.pointer (some ⟨p, 0, none⟩), .string ⟨#[97]⟩, .int .i64 0, .string ⟨#[104, 101, 108, 108, 111]⟩] w fun e w' => e = .returned (.int .i64 0) ∧ Lies B w' [.disk p FA1] ∧ Below B w w' :=
  (s_write (i := 0) h rfl ⟨#[97]⟩ (by decide) 0 (by decide) ⟨#[104, 101, 108, 108, 111]⟩ (by decide)).mono (fun e w' ⟨he, hl, hb⟩ => ⟨he.trans (ret_int v1), hl, hb⟩)
theorem c2 (h : Lies B w [.disk p FA1]) : Calls Tryz.prog 39 #[.pointer (some ⟨p, 0, none⟩), .string ⟨#[97]⟩] w fun e w' => e = .returned (.int .i64 0) ∧ Lies B w' [.disk p FA2] ∧ Below B w w' :=
  (s_sync (i := 0) h rfl ⟨#[97]⟩ (by decide)).mono (fun e w' ⟨he, hl, hb⟩ => ⟨he.trans (ret_int v2), hl, hb⟩)
theorem c3 (h : Lies B w [.disk p FA2]) : Calls Tryz.prog 18 #[.pointer (some ⟨p, 0, none⟩), .string ⟨#[97]⟩, .int .i64 5, .string ⟨#[32, 121, 111, 117]⟩] w fun e w' => e = .returned (.int .i64 0) ∧ Lies B w' [.disk p FA3] ∧ Below B w w' :=
  (s_write (i := 0) h rfl ⟨#[97]⟩ (by decide) 5 (by decide) ⟨#[32, 121, 111, 117]⟩ (by decide)).mono (fun e w' ⟨he, hl, hb⟩ => ⟨he.trans (ret_int v3), hl, hb⟩)
theorem c4 (h : Lies B w [.disk p FA3]) (t : ByteArray) (ht : t = ⟨(List.replicate 200 120).toArray⟩) : Calls Tryz.prog 18 #[.pointer (some ⟨p, 0, none⟩), .string ⟨#[98]⟩, .int .i64 0, .string t] w fun e w' => e = .returned (.int .i64 0) ∧ Lies B w' [.disk p FA4] ∧ Below B w w' := by
  subst ht
  exact (s_write (i := 0) h rfl ⟨#[98]⟩ (by decide) 0 (by decide) ⟨(List.replicate 200 120).toArray⟩ (by decide +kernel)).mono (fun e w' ⟨he, hl, hb⟩ => ⟨he.trans (ret_int v4), hl, hb⟩)
def ftObj : Obj := .cells #[.string ⟨#[98]⟩, .int .i64 1, .int .i64 1, .string ⟨#[]⟩, .string ⟨#[98]⟩, .int .i64 2, .int .i64 2, .string ⟨#[121, 121]⟩] 140 (0, 0)
theorem fts_ok : ∀ x ∈ fts, x.Ok := by
  intro x hx
  simp only [fts, List.mem_cons, List.not_mem_nil, or_false] at hx
  rcases hx with rfl | rfl
  · exact ⟨by decide, by decide⟩
  · exact ⟨by decide, by decide⟩
theorem c5 {g : Nat} (h : Lies B w [.disk p FA4, .block g ftObj]) (hg : w.heap[g]? = some ftObj) : Calls Tryz.prog 25 #[.pointer (some ⟨p, 0, none⟩), .slice (some ⟨g, 0, none⟩) 2 2] w fun e w' => e = .returned (.tuple #[]) ∧ Lies B w' [.disk p FA5] ∧ Below B w w' := by
  refine (s_crashOwn (i := 0) (j := 1) h rfl (by decide) rfl 0 fts 2 (.inr ⟨g, 0, rfl, lt_of_some hg, fun i hi j hj => ?_⟩) fts_ok (by decide)).mono (fun e w' ⟨he, hl, hb⟩ => ⟨he, (show Lies B w' ([.disk p FA5] ++ [.block g ftObj]) from hl).drop, hb⟩)
  rw [cell_of_row w g _ _ _ (0, 0) hg]
  have hi' : i < 2 := hi
  match i, hi', j, hj with
  | 0, _, 0, _ => rfl
  | 0, _, 1, _ => rfl
  | 0, _, 2, _ => rfl
  | 0, _, 3, _ => rfl
  | 1, _, 0, _ => rfl
  | 1, _, 1, _ => rfl
  | 1, _, 2, _ => rfl
  | 1, _, 3, _ => rfl
theorem c6 (h : Lies B w [.disk p FA5]) : Calls Tryz.prog 12 #[.pointer (some ⟨p, 0, none⟩), .string ⟨#[97]⟩, .int .i64 0, .int .i64 9] w fun e w' => (∃ x, e = .returned (.tuple #[.string x, .int .i64 9])) ∧ Lies B w' [.disk p FA5] ∧ Below B w w' :=
  (s_read (i := 0) h rfl ⟨#[97]⟩ (by decide) 0 9).mono (fun e w' ⟨he, hl, hb⟩ => ⟨⟨_, he.trans (by rw [show (FA5.read ((⟨#[97]⟩ : ByteArray).data.toList) 0 9).2 = 9 from v5])⟩, hl, hb⟩)
theorem c7 (h : Lies B w [.disk p FA5]) : Calls Tryz.prog 28 #[.pointer (some ⟨p, 0, none⟩)] w fun e w' => e = .returned (.bool true) ∧ w' = w :=
  (s_off (i := 0) h rfl).mono (fun e w' ⟨he, hb⟩ => ⟨he.trans (by rw [v6]), hb⟩)
theorem c8 (h : Lies B w [.disk p FA5]) : Calls Tryz.prog 26 #[.pointer (some ⟨p, 0, none⟩)] w fun e w' => e = .returned (.tuple #[]) ∧ Lies B w' [.disk p FA6] ∧ Below B w w' :=
  s_on (i := 0) h rfl
theorem c9 (h : Lies B w [.disk p FA6]) : Calls Tryz.prog 12 #[.pointer (some ⟨p, 0, none⟩), .string ⟨#[97]⟩, .int .i64 0, .int .i64 9] w fun e w' => e = .returned (.tuple #[.string ⟨#[104, 101, 108, 108, 111]⟩, .int .i64 0]) ∧ Lies B w' [.disk p FA6] ∧ Below B w w' :=
  (s_read (i := 0) h rfl ⟨#[97]⟩ (by decide) 0 9).mono (fun e w' ⟨he, hl, hb⟩ => ⟨he.trans (by rw [show FA6.read ((⟨#[97]⟩ : ByteArray).data.toList) 0 9 = _ from v7]), hl, hb⟩)
theorem c10 (h : Lies B w [.disk p FA6]) : Calls Tryz.prog 32 #[.pointer (some ⟨p, 0, none⟩), .string ⟨#[98]⟩] w fun e w' => e = .returned (.tuple #[.int .i64 192, .int .i64 0]) ∧ w' = w :=
  (s_size (i := 0) h rfl ⟨#[98]⟩ (by decide)).mono (fun e w' ⟨he, hb⟩ => ⟨he.trans (by rw [show FA6.size ((⟨#[98]⟩ : ByteArray).data.toList) = _ from v8]), hb⟩)
theorem c11 (h : Lies B w [.disk p FA6]) : Calls Tryz.prog 12 #[.pointer (some ⟨p, 0, none⟩), .string ⟨#[98]⟩, .int .i64 63, .int .i64 68] w fun e w' => (∃ x : ByteArray, e = .returned (.tuple #[.string x, .int .i64 0]) ∧ x = ⟨(([0] ++ List.replicate 64 120 ++ [121, 121, 0] : List UInt8)).toArray⟩) ∧ Lies B w' [.disk p FA6] ∧ Below B w w' :=
  (s_read (i := 0) h rfl ⟨#[98]⟩ (by decide) 63 68).mono (fun e w' ⟨he, hl, hb⟩ => ⟨⟨_, he.trans (by rw [show FA6.read ((⟨#[98]⟩ : ByteArray).data.toList) 63 68 = _ from v9]), rfl⟩, hl, hb⟩)
theorem c12 (h : Lies B w [.disk p FA6]) : Calls Tryz.prog 33 #[.pointer (some ⟨p, 0, none⟩)] w fun e w' => ∃ ad cap, e = .returned (.slice ad 2 cap) ∧ RowAt w' ad ([kA, kB].map encStr) ∧ Lies B w' [.disk p FA6] ∧ Below B w w' := by
  refine (s_list (i := 0) h rfl).mono ?_
  rintro e w' ⟨v, rfl, hr, hl, hb⟩
  rw [v10] at hr
  obtain ⟨ad, cap, rfl, hr, _, _⟩ := row_at hr
  exact ⟨ad, cap, rfl, hr, hl.drop, hb⟩
theorem c13 (h : Lies B w [.disk p FA6]) : Calls Tryz.prog 14 #[.pointer (some ⟨p, 0, none⟩), .string ⟨#[98]⟩] w fun e w' => ∃ ad cap, e = .returned (.slice ad 0 cap) ∧ Lies B w' [.disk p FA6] ∧ Below B w w' := by
  refine (s_dirty (i := 0) h rfl ⟨#[98]⟩ (by decide)).mono ?_
  rintro e w' ⟨v, rfl, hr, hl, hb⟩
  rw [show FA6.dirtyI ((⟨#[98]⟩ : ByteArray).data.toList) = [] from v11] at hr
  obtain ⟨ad, cap, rfl, hr, _, _⟩ := row_at hr
  exact ⟨ad, cap, rfl, hl.drop, hb⟩
theorem c14 (h : Lies B w [.disk p FA6]) : Calls Tryz.prog 80 #[.pointer (some ⟨p, 0, none⟩)] w fun e w' => e = .returned (.int .i64 197) ∧ Lies B w' [.disk p FA6] ∧ Below B w w' :=
  (s_used (i := 0) h rfl).mono (fun e w' ⟨he, hl, hb⟩ => ⟨he.trans (ret_int v12), hl, hb⟩)
end
-- left out in this seat: first_any
end Go.Proofs.YtlkimfmilccanaaGreat
/-
  Lists of the caller's own: grown, written.
-/
namespace Go.Proofs.YtlkimfmilccanaaGreat
open Go.RowKit Go.Maps Go.WideMaps
set_option linter.unusedVariables false
set_option linter.unusedSimpArgs false
section
variable {t e : TypeId} {z : Value} {by_ : Nat}
/-- append(v, x...) onto a list of the caller's own, of one cell an element. -/
theorem run_append_rows (ht : Tryz.prog.underlying t = some (.slice e)) (hinf : (Tryz.prog.info? e).map (fun i => (i.zero, i.size, i.bytes)) = some (some z, 1, by_)) (hzc : z.cells.size = 1) (hby : 1 ≤ by_)
    (w : World) (ty tx : TypeId) (v : Value) (l news : List Value) (hown : w.ownsRow 0 e 1 v l.length l) (x : Value) (hs : Src Tryz.prog 1 tx x news.length news w) (hlen : (l.length + news.length) * by_ ≤ 140737488355328) :
    ∃ v' w', (Builtin.append_ #[t, tx] ty #[v, x]).run Tryz.prog w = .ok v' w' ∧ w'.ownsRow 0 e 1 v' (l ++ news).length (l ++ news) ∧ Mv w v w' v' := by
  obtain ⟨i, hi, hz0, hz1, hz2⟩ := info_parts hinf
  rw [← hz1] at hs
  have hlen0 : l.length + news.length ≤ 140737488355328 := Nat.le_trans (Nat.le_mul_of_pos_right _ hby) hlen
  by_cases hn : news = []
  · subst hn
    have hh := hown.2
    rcases hh with ⟨rfl, hl⟩ | ⟨g, cap, cur, rfl, hb, hg, hnc, hcm, hcs, htake⟩
    · exact ⟨_, _, run_append_nothing (P := Tryz.prog) w t tx ty e i ht hi none 0 0 (Nat.le_refl _) x hs, by rw [List.append_nil]; exact hown, Mv.refl _ _⟩
    · exact ⟨_, _, run_append_nothing (P := Tryz.prog) w t tx ty e i ht hi (some ⟨g, 0, none⟩) l.length cap hnc x hs, by rw [List.append_nil]; exact hown, Mv.refl _ _⟩
  have hpos : 0 < news.length := List.length_pos_iff.2 hn
  have grown : ∀ (old : Nat), old < l.length + news.length →
      (w.drew.alloc (.cells ((l ++ news).toArray ++ Builtin.zeroCells z.cells (grownCap w (l.length + news.length) old e - (l.length + news.length))) e)).ownsRow 0 e 1
        (.slice (some ⟨w.heap.size, 0, none⟩) (l.length + news.length) (grownCap w (l.length + news.length) old e)) (l ++ news).length (l ++ news) ∧
      ∀ row : Option Nat, w.grownBy (w.drew.alloc (.cells ((l ++ news).toArray ++ Builtin.zeroCells z.cells (grownCap w (l.length + news.length) old e - (l.length + news.length))) e)) row := by
    intro old ho
    have hge := grownCap_ge w (l.length + news.length) old e
    have hcm : grownCap w (l.length + news.length) old e ≤ maxLen := grownCap_le_maxLen w _ old e (by unfold maxLen; omega)
    refine ⟨?_, fun row => ⟨rfl, rfl, rfl, by simp, fun k hk _ => Below.heap_alloc w.drew _ k hk⟩⟩
    rw [List.length_append]
    refine ⟨by simp, .inr ⟨w.heap.size, _, _, rfl, Nat.zero_le _, heap_alloc_new w.drew _, hge, hcm, ?_, ?_⟩⟩
    · simp only [Array.size_append, List.size_toArray, size_zeroCells, List.length_append]
      rw [hzc]
      omega
    · rw [Array.toList_append]
      have e : (l.length + news.length) * 1 = (l ++ news).length := by simp
      rw [e]
      exact List.take_left
  have hh := hown.2
  rcases hh with ⟨rfl, hl⟩ | ⟨g, cap, cur, rfl, hb, hg, hnc, hcm, hcs, htake⟩
  · have hl0 : l = [] := List.length_eq_zero_iff.1 hl
    subst hl0
    have hr := run_append_grow_src (P := Tryz.prog) w t tx ty e i z ht hi hz0 none 0 0 [] (run_firstCells_none w.drew i.size 0 0 0) x news.length news hs (by omega) (by omega) (by
      rw [hz2, Nat.zero_add, nextslicecap_zero hpos]; simp only [List.length_nil, Nat.zero_add] at hlen; omega)
    obtain ⟨g1, g2⟩ := grown 0 (by omega)
    simp only [List.length_nil, Nat.zero_add, List.nil_append] at g1 g2 hr
    refine ⟨_, _, hr, by simpa using g1, g2 _, fun g' hg' => .inr ?_⟩
    have e : g' = w.heap.size := by simpa [Value.ownBlock] using hg'.symm
    omega
  · have hc := World.ownsRow.cells hown (g := g) rfl
    by_cases hroom : l.length + news.length ≤ cap
    · have hst := run_storeCells_at Tryz.prog g (l.length * i.size) e news 0 cur w hg (by simp [hz1]; omega) hs.one
      rw [Nat.add_zero] at hst
      have hr : (Builtin.append_ #[t, tx] ty #[.slice (some ⟨g, 0, none⟩) l.length cap, x]).run Tryz.prog w = .ok (.slice (some ⟨g, 0, none⟩) (l.length + news.length) cap) (w.setRow g (cur.toList.take (l.length * i.size) ++ news ++ cur.toList.drop (l.length * i.size + news.length)).toArray) := by
        rcases hs.kind with ⟨e', hk⟩ | hk <;> simp [Builtin.append_, run_underlying ht, run_underlying hk, sizeOf, typeInfo, hi, hs.len, hroom, hs.cells, Addr.add_lit, hst]
      refine ⟨_, _, hr, ?_, ⟨rfl, rfl, rfl, by simp, fun k _ hk => setRow_other w g k _ (fun e => hk (by simp [Value.ownBlock, e]))⟩, fun g' hg' => .inl ?_⟩
      · rw [List.length_append]
        refine ⟨by simp, .inr ⟨g, cap, _, rfl, hb, setRow_heap w g cur _ e _ hg, hroom, hcm, ?_, ?_⟩⟩
        · simp only [List.size_toArray, List.length_append, List.length_take, List.length_drop, Array.length_toList, hz1]
          omega
        · rw [hz1, htake]
          have e : (l.length + news.length) * 1 = (l ++ news).length := by simp
          rw [e]
          exact List.take_left
      · simpa [Value.ownBlock] using hg'
    · have hr := run_append_grow_src (P := Tryz.prog) w t tx ty e i z ht hi hz0 (some ⟨g, 0, none⟩) l.length cap l (by
        have := run_firstCells_some (P := Tryz.prog) w.drew i.size l.length ⟨g, 0, none⟩ l.length cap l (by simp [hz1]) hc
        exact this) x news.length news hs (by omega) (by omega) (growslice_fits (by omega) (by rw [hz2]; omega))
      obtain ⟨g1, g2⟩ := grown cap (by omega)
      refine ⟨_, _, hr, g1, g2 _, fun g' hg' => .inr ?_⟩
      have e : g' = w.heap.size := by simpa [Value.ownBlock] using hg'.symm
      omega
/-- What a list yields. -/
theorem src_row {tx : TypeId} (hk : Tryz.prog.underlying tx = some (.slice e)) {w : World} {x : Value} {news : List Value} (h : w.ownsRow 0 e 1 x news.length news) (h1 : ∀ u ∈ news, u.oneCell' = true) : Src Tryz.prog 1 tx x news.length news w := by
  have hh := h.2
  rcases hh with ⟨rfl, hl⟩ | ⟨g, cap, cur, rfl, hb, hg, rest⟩
  · have : news = [] := List.length_eq_zero_iff.1 hl
    subst this
    exact Src.ofNil w hk 0
  · exact Src.ofSlice w hk ⟨g, 0, none⟩ news.length cap news (by simp) (World.ownsRow.cells h rfl) h1
end
section
variable {B : Nat} {w : World} {L : List Item} {i : Nat} {e : TypeId} {v : Value} {xs : List Value}
theorem Lies.rowOf (h : Lies B w L) (hi : L[i]? = some (.row e v xs)) : w.ownsRow 0 e 1 v xs.length xs := by
  obtain ⟨S, hp, _⟩ := h.get hi
  exact hp.1
theorem Lies.pushNil (h : Lies B w L) (e : TypeId) : Lies B w (L ++ [.row e (.slice none 0 0) []]) :=
  h.push (S' := fun b => (Value.slice none 0 0).ownBlock = some b) (Below.refl _ _) ⟨World.ownsRow_nil w 0 e 1, fun _ => Iff.rfl⟩ (fun b hb => by simp [Value.ownBlock] at hb)
/-- One of the lists has grown, or was moved. -/
theorem Lies.moved {w' : World} {v' : Value} {ys : List Value} (h : Lies B w L) (hi : L[i]? = some (.row e v xs)) (hr : w'.ownsRow 0 e 1 v' ys.length ys) (hm : Mv w v w' v') : Lies B w' (L.set i (.row e v' ys)) ∧ Below B w w' := by
  obtain ⟨S, hp, hB, hap, hk⟩ := h.upd hi
  refine hk w' _ (fun b => v'.ownBlock = some b) ⟨hr, fun _ => Iff.rfl⟩ ⟨⟨hm.gr.os, hm.gr.tape, hm.gr.output, hm.gr.size, fun b hb hn => hm.gr.block b hb (fun x => hn ((hp.2 b).2 x.symm))⟩, fun b hb => ?_⟩
  rcases hm.own b hb with x | x
  · exact .inl ((hp.2 b).2 x)
  · exact .inr x
theorem own_form {n cap : Nat} {ad : Option Addr} (h : w.ownsRow 0 e 1 (.slice ad n cap) n xs) (hn : 0 < n) : ∃ g, ad = some ⟨g, 0, none⟩ := by
  rcases h.2 with ⟨h1, h2⟩ | ⟨g, cp, cur, h1, _⟩
  · omega
  · simp only [Value.slice.injEq] at h1
    exact ⟨g, h1.1⟩
theorem Lies.store {g n cap : Nat} (h : Lies B w L) (hi : L[i]? = some (.row e (.slice (some ⟨g, 0, none⟩) n cap) xs)) (hn : xs.length = n) (j : Nat) (u : Value) :
    Lies B (w.setCell ⟨g, j, none⟩ u) (L.set i (.row e (.slice (some ⟨g, 0, none⟩) n cap) (xs.set j u))) ∧ Below B w (w.setCell ⟨g, j, none⟩ u) := by
  subst hn
  obtain ⟨h1, h2⟩ := World.ownsRow.stored (h.rowOf hi) j u
  have h1' : (w.setCell ⟨g, j, none⟩ u).ownsRow 0 e 1 (.slice (some ⟨g, 0, none⟩) xs.length cap) (xs.set j u).length (xs.set j u) := by rw [List.length_set]; exact h1
  exact h.moved hi h1' ⟨h2, fun _ hx => .inl hx⟩
end
theorem info3' : (Tryz.prog.info? 3).map (fun i => (i.zero, i.size, i.bytes)) = some (some (.int .i64 0), 1, 8) := by kernel_rfl
theorem info9' : (Tryz.prog.info? 9).map (fun i => (i.zero, i.size, i.bytes)) = some (some (.string ⟨#[]⟩), 1, 16) := by kernel_rfl
def fillTo (xs : List Value) (k : Nat) (x : Value) : List Value := List.replicate k x ++ xs.drop k
theorem fillTo_zero (xs : List Value) (x : Value) : fillTo xs 0 x = xs := rfl
theorem fillTo_length (xs : List Value) (k : Nat) (x : Value) (h : k ≤ xs.length) : (fillTo xs k x).length = xs.length := by simp [fillTo]; omega
theorem fillTo_all (xs : List Value) (x : Value) : fillTo xs xs.length x = List.replicate xs.length x := by simp [fillTo]
theorem fillTo_set (xs : List Value) (k : Nat) (x : Value) (h : k < xs.length) : (fillTo xs k x).set k x = fillTo xs (k + 1) x := by
  unfold fillTo
  rw [List.set_append_right _ _ (by simp), List.length_replicate, Nat.sub_self, List.drop_eq_getElem_cons h, List.set_cons_zero, List.replicate_succ']
  simp
end Go.Proofs.YtlkimfmilccanaaGreat
