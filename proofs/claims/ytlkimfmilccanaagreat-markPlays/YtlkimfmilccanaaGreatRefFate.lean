import Derived.Test.YtlkimfmilccanaaGreatRowsOwn
/-
  The document's own disk: its files in memory, lists that grow.
-/
namespace Go.Proofs.YtlkimfmilccanaaGreat
open Go.RowKit Go.Maps Go.WideMaps
set_option linter.unusedVariables false
set_option linter.unusedSimpArgs false
theorem RowAt.below {w w' : World} {ad : Option Addr} {xs : List Value} (h : RowAt w ad xs) (hb : Below w.heap.size w w') : RowAt w' ad xs := by
  rcases h with h | ⟨b, o, ha, hl, hc⟩
  · exact .inl h
  · exact .inr ⟨b, o, ha, Nat.lt_of_lt_of_le hl hb.size, fun i hi => by rw [← hc i hi]; exact World.cell?_of_block (hb.block b hl)⟩
/-- A list that the call made, of so many cells an element, as it is read. -/
theorem own_at {w : World} {base e sz n : Nat} {v : Value} {xs : List Value} (h : w.ownsRow base e sz v n xs) : ∃ ad cap, v = .slice ad n cap ∧ RowAt w ad xs ∧ n ≤ maxLen ∧ (∀ b o, ad = some ⟨b, o, none⟩ → base ≤ b) := by
  obtain ⟨hl, ⟨rfl, rfl⟩ | ⟨g, cap, cur, rfl, hb, hg, hnc, hcm, hcs, htake⟩⟩ := h
  · rw [Nat.zero_mul] at hl
    exact ⟨none, 0, rfl, .inl (List.length_eq_zero_iff.1 hl), Nat.zero_le _, fun b o hx => by cases hx⟩
  · refine ⟨some ⟨g, 0, none⟩, cap, rfl, ?_, Nat.le_trans hnc hcm, fun b o hx => by cases hx; exact hb⟩
    refine .inr ⟨g, 0, rfl, lt_of_some hg, fun i hi => ?_⟩
    rw [Nat.zero_add, cell_of_row w g i _ _ (0, 0) hg, ← htake, List.getElem?_take, if_pos (by omega)]
    rw [Array.getElem?_toList]
section
variable {t e : TypeId} {z : Value} {sz by_ : Nat}
/-- append(v, x): one element more. -/
theorem app_one (ht : Tryz.prog.underlying t = some (.slice e)) (hinf : (Tryz.prog.info? e).map (fun i => (i.zero, i.size, i.bytes)) = some (some z, sz, by_)) (hzc : z.cells.size = sz) (hsz : 0 < sz)
    {B : Nat} {wr w1 : World} {v : Value} {n : Nat} {l : List Value} (hown : wr.ownsRow B e sz v n l) (hB : B ≤ wr.heap.size) (news : Array Value) (hnl : news.size = sz) (h1 : ∀ u ∈ news.toList, u.oneCell' = true) (hn : (n + 1) * by_ ≤ 140737488355328) (hm : n + 1 ≤ maxLen) (ty : TypeId) (hw1 : wr.alloc (.cells news e) = w1) {g1 : Nat} (hg1 : wr.heap.size = g1) :
    ∃ v' w', (Builtin.append_ #[t, t] ty #[v, .slice (some ⟨g1, 0, none⟩) 1 1]).run Tryz.prog w1 = .ok v' w' ∧ w'.ownsRow B e sz v' (n + 1) (l ++ news.toList) ∧ Below B wr w' := by
  obtain ⟨i, hi, hz0, hz1, hz2⟩ := info_parts hinf
  have hb1 : Below wr.heap.size wr w1 := by rw [← hw1]; exact (Below.refl _ _).alloc (Nat.le_refl _) _
  have hown1 : w1.ownsRow B e sz v n l := row_same hown (fun b hb => hb1.block b (World.ownsRow.lt hown b hb).2)
  obtain ⟨g, cap, w', hr, h2, h3, h4, h5⟩ := run_append_lies (P := Tryz.prog) w1 t ty B e i z sz by_ ht hi hz0 hz1 hz2 hzc hsz v n l hown1 ⟨g1, 0, none⟩ 1 1 news.toList (by rw [Array.length_toList, hnl]; omega) (fun j u hu => by rw [← hw1, ← hg1]; exact World.news_of_block (heap_alloc_new wr _) j u hu) h1 (by omega) hm hn (Nat.le_trans hB hb1.size) _ rfl
  refine ⟨_, w', hr, h2, (hb1.mono hB).trans ⟨h3.os, h3.tape, h3.output, h3.size, fun b hb => h3.block b (by have := hb1.size; omega) (fun hx => ?_)⟩⟩
  have := (World.ownsRow.lt hown b hx.symm).1
  omega
end
/-! ### files -/
structure RF where
  name : ByteArray
  seen : ByteArray
  safe : ByteArray
  ad : Option Addr
  cap : Nat
  ds : List Int
def RF.cs (x : RF) : Array Value := #[.string x.name, .string x.seen, .string x.safe, .slice x.ad x.ds.length x.cap]
def RF.abs (x : RF) : Key × AF := (x.name.data.toList, ⟨x.seen.data.toList, x.safe.data.toList, fun s => x.ds.contains (s : Int)⟩)
def cellsF : List RF → List Value
  | [] => []
  | x :: r => x.cs.toList ++ cellsF r
theorem cellsF_length : ∀ xs : List RF, (cellsF xs).length = xs.length * 4
  | [] => rfl
  | x :: r => by
    show (x.cs.toList ++ cellsF r).length = _
    rw [List.length_append, cellsF_length r, List.length_cons]
    show 4 + _ = _
    omega
theorem cellsF_append : ∀ xs ys : List RF, cellsF (xs ++ ys) = cellsF xs ++ cellsF ys
  | [], ys => rfl
  | x :: r, ys => by
    show x.cs.toList ++ cellsF (r ++ ys) = (x.cs.toList ++ cellsF r) ++ cellsF ys
    rw [cellsF_append r ys, List.append_assoc]
theorem cellsF_get : ∀ (xs : List RF) (k : Nat) (h : k < xs.length) (j : Nat), j < 4 → (cellsF xs)[k * 4 + j]? = (xs[k].cs)[j]?
  | [], k, h, _, _ => by simp at h
  | x :: r, 0, _, j, hj => by
    show (x.cs.toList ++ cellsF r)[0 * 4 + j]? = x.cs[j]?
    rw [List.getElem?_append_left (by show _ < 4; omega), Array.getElem?_toList]
    congr 1
    omega
  | x :: r, k + 1, h, j, hj => by
    show (x.cs.toList ++ cellsF r)[(k + 1) * 4 + j]? = _
    rw [List.getElem?_append_right (by show 4 ≤ _; omega)]
    show (cellsF r)[(k + 1) * 4 + j - 4]? = _
    rw [show (k + 1) * 4 + j - 4 = k * 4 + j by omega, cellsF_get r k (by simp at h; omega) j hj]
    rfl
structure Files (w : World) (ad : Option Addr) (xs : List RF) : Prop where
  row : RowAt w ad (cellsF xs)
  dirty : ∀ x ∈ xs, RowAt w x.ad (x.ds.map (Value.int .i64))
theorem Files.below {w w' : World} {ad : Option Addr} {xs : List RF} (h : Files w ad xs) (hb : Below w.heap.size w w') : Files w' ad xs := ⟨h.row.below hb, fun x hx => (h.dirty x hx).below hb⟩
theorem Files.cells {w : World} {ad : Option Addr} {xs : List RF} (h : Files w ad xs) {k : Nat} (hk : k < xs.length) : ∃ b o, ad = some ⟨b, o, none⟩ ∧ b < w.heap.size ∧ ∀ j, j < 4 → w.cell? ⟨b, o + k * 4 + j, none⟩ = (xs[k].cs)[j]? := by
  rcases h.row with h0 | ⟨b, o, ha, hl, hc⟩
  · exfalso
    have := cellsF_length xs
    rw [h0] at this
    simp at this
    omega
  · refine ⟨b, o, ha, hl, fun j hj => ?_⟩
    have := hc (k * 4 + j) (by rw [cellsF_length]; omega)
    rw [← Nat.add_assoc] at this
    rw [this, cellsF_get xs k hk j hj]
theorem one_file (x : RF) : ∀ u ∈ x.cs.toList, u.oneCell' = true := by
  intro u hu
  simp only [RF.cs, List.mem_cons, List.not_mem_nil, or_false] at hu
  rcases hu with rfl | rfl | rfl | rfl <;> rfl
theorem infoF : (Tryz.prog.info? 147).map (fun i => (i.zero, i.size, i.bytes)) = some (some (.agg #[.string ⟨#[]⟩, .string ⟨#[]⟩, .string ⟨#[]⟩, .slice none 0 0]), 4, 72) := by kernel_rfl
/-- append(out, f): one file more. -/
theorem app_file {B : Nat} {wr w1 : World} {v : Value} {ys : List RF} (hown : wr.ownsRow B 147 4 v ys.length (cellsF ys)) (hB : B ≤ wr.heap.size) (hn : ys.length ≤ 1000) (x : RF) (ty : TypeId) (hw1 : wr.alloc (.cells x.cs 147) = w1) {g1 : Nat} (hg1 : wr.heap.size = g1) :
    ∃ v' w', (Builtin.append_ #[109, 109] ty #[v, .slice (some ⟨g1, 0, none⟩) 1 1]).run Tryz.prog w1 = .ok v' w' ∧ w'.ownsRow B 147 4 v' (ys ++ [x]).length (cellsF (ys ++ [x])) ∧ Below B wr w' := by
  obtain ⟨v', w', h1, h2, h3⟩ := app_one Tryz.underlying109 infoF rfl (by decide) hown hB x.cs rfl (one_file x) (by omega) (by unfold maxLen; omega) ty hw1 hg1
  refine ⟨v', w', h1, ?_, h3⟩
  rw [List.length_append, cellsF_append]
  have e : cellsF [x] = x.cs.toList := List.append_nil _
  rw [e]
  exact h2
/-! ### what put, without do -/
def insR (f : RF) : List RF → List RF
  | [] => [f]
  | y :: r => if bytesBefore f.name.data.toList y.name.data.toList then f :: y :: r else y :: insR f r
def delR (xs : List RF) (k : Key) : List RF := xs.filter (fun x => !(x.name.data.toList == k))
def putR (xs : List RF) (f : RF) : List RF := insR f (delR xs f.name.data.toList)
theorem insR_abs (f : RF) : ∀ xs : List RF, (insR f xs).map RF.abs = fins f.abs (xs.map RF.abs)
  | [] => rfl
  | y :: r => by
    unfold insR
    rw [List.map_cons]
    unfold fins
    show List.map RF.abs (if bytesBefore f.name.data.toList y.name.data.toList then f :: y :: r else y :: insR f r) = if bytesBefore f.name.data.toList y.name.data.toList then _ else _
    split
    · rfl
    · rw [List.map_cons, insR_abs f r]
theorem delR_abs (k : Key) : ∀ xs : List RF, (delR xs k).map RF.abs = fdel (xs.map RF.abs) k
  | [] => rfl
  | y :: r => by
    unfold delR fdel
    rw [List.map_cons, List.filter_cons, List.filter_cons]
    show List.map RF.abs (if (!(y.name.data.toList == k)) = true then _ else _) = if (!(y.name.data.toList == k)) = true then _ else _
    have := delR_abs k r
    unfold delR fdel at this
    split
    · rw [List.map_cons, this]
    · exact this
theorem putR_abs (xs : List RF) (f : RF) : (putR xs f).map RF.abs = fput (xs.map RF.abs) f.abs.1 f.abs.2 := by
  unfold putR fput
  rw [insR_abs, delR_abs]
  rfl
theorem insR_mem {f x : RF} : ∀ {xs : List RF}, x ∈ insR f xs → x = f ∨ x ∈ xs
  | [], h => .inl (List.mem_singleton.1 h)
  | y :: r, h => by
    unfold insR at h
    split at h
    · rcases List.mem_cons.1 h with h | h
      · exact .inl h
      · exact .inr h
    · rcases List.mem_cons.1 h with h | h
      · exact .inr (by rw [h]; exact List.mem_cons_self ..)
      · rcases insR_mem h with h | h
        · exact .inl h
        · exact .inr (List.mem_cons_of_mem _ h)
theorem delR_mem {xs : List RF} {k : Key} {x : RF} (h : x ∈ delR xs k) : x ∈ xs := (List.mem_filter.1 h).1
theorem putR_mem {xs : List RF} {f x : RF} (h : x ∈ putR xs f) : x = f ∨ x ∈ xs := (insR_mem h).imp id delR_mem
/-- The same as a turn of one file, where it is there. -/
theorem fput_fset : ∀ {fs : FList} {k : Key} {F G : AF}, fs.Pairwise (fun p q => bytesBefore p.1 q.1 = true) → fget fs k = some G → fput fs k F = fset fs k F
  | [], _, _, _, _, h => by simp [fget] at h
  | p :: r, k, F, G, hs, h => by
    rw [fget_cons] at h
    have hs' := List.pairwise_cons.1 hs
    rw [fset_cons]
    unfold fput fdel
    rw [List.filter_cons]
    by_cases e : p.1 = k
    · rw [if_pos e]
      have hb : (!(p.1 == k)) = false := by simp [e]
      rw [hb]
      simp only [Bool.false_eq_true, if_false]
      have hr : r.filter (fun q => !(q.1 == k)) = r := by
        rw [List.filter_eq_self]
        intro q hq
        have hx := hs'.1 q hq
        have hne : q.1 ≠ k := fun hh => by rw [e, hh] at hx; rw [bb_irrefl] at hx; cases hx
        simp [hne]
      rw [hr]
      have hset : fset r k F = r := by
        refine fset_none ?_
        rw [fget_none_iff]
        intro q hq hh
        have hx := hs'.1 q hq
        rw [e, hh, bb_irrefl] at hx
        cases hx
      rw [hset, e]
      cases r with
      | nil => rfl
      | cons q s =>
        unfold fins
        rw [if_pos (by have := hs'.1 q (List.mem_cons_self ..); rw [e] at this; exact this)]
    · rw [if_neg e] at h ⊢
      have hb : (!(p.1 == k)) = true := by simp [e]
      rw [hb]
      simp only [if_true]
      unfold fins
      have hpk : bytesBefore p.1 k = true := by
        have := fget_mem h
        exact hs'.1 _ this
      have hno : bytesBefore k p.1 = false := by
        cases hx : bytesBefore k p.1 with
        | false => rfl
        | true => have := bb_trans _ _ _ hx hpk; rw [bb_irrefl] at this; cases this
      simp only [hno, Bool.false_eq_true, if_false]
      congr 1
      exact fput_fset hs'.2 h
end Go.Proofs.YtlkimfmilccanaaGreat
/-
  The document's disk: FateOf.
-/
namespace Go.Proofs.YtlkimfmilccanaaGreat
open Go.RowKit Go.Maps Go.WideMaps
set_option linter.unusedVariables false
set_option linter.unusedSimpArgs false
theorem firstF_take_none {ls : List FT} {k : Key} {s : Int} {j : Nat} (h : firstF (ls.take j) k s = none) (hj : j < ls.length) (hx : ¬ (ls[j].file.data.toList = k ∧ ls[j].sector = s)) : firstF (ls.take (j + 1)) k s = none := by
  rw [take_snoc ls j hj, firstF_snoc, h]
  simp only [Option.none_or]
  rw [if_neg hx]
theorem firstF_at {ls : List FT} {k : Key} {s : Int} {j : Nat} (h : firstF (ls.take j) k s = none) (hj : j < ls.length) (hx : ls[j].file.data.toList = k ∧ ls[j].sector = s) : firstF ls k s = some ls[j] := by
  have e : ls = ls.take j ++ ls[j] :: ls.drop (j + 1) := by rw [← List.drop_eq_getElem_cons hj, List.take_append_drop]
  obtain ⟨y, hy⟩ : ∃ y, ls[j] = y := ⟨_, rfl⟩
  rw [hy] at hx e ⊢
  unfold firstF at h ⊢
  have e2 := congrArg (List.find? (fun x : FT => x.file.data.toList == k && decide (x.sector = s))) e
  rw [e2, List.find?_append, h]
  simp [hx.1, hx.2]
/-- The fate that is told. -/
def fateR (ls : List FT) (k : Key) (s : Int) : FT := (firstF ls k s).getD FT.zero
theorem fateR_some {ls : List FT} {k : Key} {s : Int} {x : FT} (h : firstF ls k s = some x) : fateR ls k s = x := by unfold fateR; rw [h]; rfl
theorem fateR_none {ls : List FT} {k : Key} {s : Int} (h : firstF ls k s = none) : fateR ls k s = FT.zero := by unfold fateR; rw [h]; rfl
set_option maxRecDepth 5000 in
set_option maxHeartbeats 1000000 in
theorem rFate_any (w : World) (ad : Option Addr) (cap : Nat) (ls : List FT) (h : FatesAt w ad ls) (hl : ls.length ≤ 9223372036854775807) (n : ByteArray) (s : Int) :
    Calls Tryz.prog 118 #[.slice ad ls.length cap, .string n, .int .i64 s] w fun e w' => e = .returned (.agg (fateR ls n.data.toList s).cs) ∧ Below w.heap.size w w' := by
  have HF := hide h
  clear h
  obtain ⟨g, hg⟩ : ∃ g, w.heap.size = g := ⟨_, rfl⟩
  have HG := hide hg
  obtain ⟨w0, hw0⟩ : ∃ w0, w.alloc (.cells FT.zero.cs 140) = w0 := ⟨_, rfl⟩
  have HW0 := hide hw0
  have hb0 : Below w.heap.size w w0 := by rw [← hw0]; exact (Below.refl _ _).alloc (Nat.le_refl _) _
  have HB0 := hide hb0
  clear hw0 hb0
  go_enter Tryz.func118, Tryz.ntmps118
  go_wp2
  go_loopw [7] (fun i wr => ∃ k : Nat, k ≤ ls.length ∧ i = .int .i64 (k : Int) ∧ firstF (ls.take k) n.data.toList s = none ∧ wr = w.alloc (.cells #[.string ⟨#[]⟩, .int .i64 0, .int .i64 0, .string ⟨#[]⟩] 140)) (fun i _ => ls.length - (intOf i).toNat)
  case atStart => exact ⟨0, by omega, rfl, rfl, rfl⟩
  case round =>
    obtain ⟨k, hk, rfl, hno, rfl⟩ := hrel
    have HN := hide hno
    clear hno
    by_cases hlt : k < ls.length
    · have dk : decide ((k : Int) < (ls.length : Int)) = true := decide_eq_true (by omega)
      have hk0 : (0 : Int) ≤ (k : Int) := by omega
      have hk1 : (k : Int) < (ls.length : Int) := by omega
      rcases HF.out with h | ⟨b, o, rfl, hbl, hcs⟩
      · rw [h] at hlt; exact absurd hlt (by simp)
      obtain ⟨x, hx⟩ : ∃ x, ls[k] = x := ⟨_, rfl⟩
      have hcell : ∀ j, j < 4 → (w.alloc (.cells #[.string ⟨#[]⟩, .int .i64 0, .int .i64 0, .string ⟨#[]⟩] 140)).cell? ⟨b, o + k * 4 + j, none⟩ = (x.cs)[j]? := fun j hj => by rw [World.cell?_alloc_lt _ _ _ hbl, hcs k hlt j hj, hx]
      have f0 := (hcell 0 (by omega)).trans (show x.cs[0]? = some (Value.string x.file) from rfl)
      have f1 := (hcell 1 (by omega)).trans (show x.cs[1]? = some (Value.int .i64 x.sector) from rfl)
      have f2 := (hcell 2 (by omega)).trans (show x.cs[2]? = some (Value.int .i64 x.kind) from rfl)
      have f3 := (hcell 3 (by omega)).trans (show x.cs[3]? = some (Value.string x.bytes) from rfl)
      rw [Nat.add_zero] at f0
      cases h1 : (x.file.data.toList == n.data.toList) with
      | false =>
        have hb1 : (x.file.toList == n.toList) = false := by rw [toList_beq]; exact h1
        have HC := hide (firstF_take_none HN.out hlt (by rw [hx]; exact fun e => beq_eq_false_iff_ne.1 h1 e.1))
        clear h1 hcs hx hcell
        go_wp2
        go_roundw
        case rel => exact ⟨k + 1, by omega, by go_num, HC.out, by first | rfl | trivial⟩
        case measure => simp [intOf]; omega
      | true =>
        have hb1 : (x.file.toList == n.toList) = true := by rw [toList_beq]; exact h1
        cases h2 : (x.sector == s) with
        | false =>
          have HC := hide (firstF_take_none HN.out hlt (by rw [hx]; exact fun e => beq_eq_false_iff_ne.1 h2 e.2))
          clear h1 hcs hx hcell
          go_wp2
          go_roundw
          case rel => exact ⟨k + 1, by omega, by go_num, HC.out, by first | rfl | trivial⟩
          case measure => simp [intOf]; omega
        | true =>
          have hC := firstF_at HN.out hlt (by rw [hx]; exact ⟨beq_iff_eq.1 h1, beq_iff_eq.1 h2⟩)
          rw [hx] at hC
          have HC := hide (fateR_some hC)
          clear h1 hcs hx hcell hC
          go_wp2
          exact bodyPost_ret (results_cell_row rfl _ _ g 140 #[.string x.file, .int .i64 x.sector, .int .i64 x.kind, .string x.bytes] (0, 0) _ rfl (by rw [← HG.out]; exact heap_alloc_new w _) Tryz.underlying140 rfl (by kernel_rfl)) rfl ⟨by rw [HC.out]; rfl, (Below.refl _ _).alloc (Nat.le_refl _) _⟩
    · have hkl : k = ls.length := by omega
      subst hkl
      have dk : decide ((ls.length : Int) < (ls.length : Int)) = false := decide_eq_false (by omega)
      have HC := HN.out
      rw [List.take_length] at HC
      have HD := hide (fateR_none HC)
      clear HC
      go_wp2
      exact bodyPost_ret (results_cell_row rfl _ _ g 140 #[.string ⟨#[]⟩, .int .i64 0, .int .i64 0, .string ⟨#[]⟩] (0, 0) _ rfl (by rw [← HG.out]; exact heap_alloc_new w _) Tryz.underlying140 rfl (by kernel_rfl)) rfl ⟨by rw [HD.out]; rfl, (Below.refl _ _).alloc (Nat.le_refl _) _⟩
end Go.Proofs.YtlkimfmilccanaaGreat
