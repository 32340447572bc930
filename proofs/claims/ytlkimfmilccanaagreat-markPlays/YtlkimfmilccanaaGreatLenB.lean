import Derived.Test.YtlkimfmilccanaaGreatCopyD
/-
  fatesOf.
-/
namespace Go.Proofs.YtlkimfmilccanaaGreat
open Go.RowKit Go.Maps Go.WideMaps
set_option linter.unusedVariables false
/-- A fate as it lies in memory. -/
structure FT where
  file : ByteArray
  sector : Int
  kind : Int
  bytes : ByteArray
def FT.abs (x : FT) : AFate := ⟨x.file.data.toList, x.sector, x.kind, x.bytes.data.toList⟩
def FT.cs (x : FT) : Array Value := #[.string x.file, .int .i64 x.sector, .int .i64 x.kind, .string x.bytes]
def FT.zero : FT := ⟨⟨#[]⟩, 0, 0, ⟨#[]⟩⟩
structure FT.Ok (x : FT) : Prop where
  s0 : -9223372036854775808 ≤ x.sector
  s1 : x.sector < 9223372036854775808
/-- The list of fates at an address. -/
def FatesAt (w : World) (ad : Option Addr) (ls : List FT) : Prop := ls = [] ∨ ∃ b o, ad = some ⟨b, o, none⟩ ∧ b < w.heap.size ∧ ∀ i (h : i < ls.length) j, j < 4 → w.cell? ⟨b, o + i * 4 + j, none⟩ = (ls[i].cs)[j]?
theorem FatesAt.below {w w' : World} {ad : Option Addr} {ls : List FT} {B : Nat} (h : FatesAt w ad ls) (hb : Below B w w') (hB : ∀ b o, ad = some ⟨b, o, none⟩ → b < B) : FatesAt w' ad ls := by
  rcases h with h | ⟨b, o, ha, hl, hc⟩
  · exact .inl h
  · refine .inr ⟨b, o, ha, Nat.lt_of_lt_of_le hl hb.size, fun i hi j hj => ?_⟩
    rw [World.cell?_of_block (hb.block b (hB b o ha))]
    exact hc i hi j hj
def fdat (x : FT) : DataW Unit := .agg [.lit (.string x.file.data.toList), .lit (.int .i64 x.sector), .lit (.int .i64 x.kind), .lit (.string x.bytes.data.toList)]
theorem bytes_ext {a b : ByteArray} (h : a.data.toList = b.data.toList) : a = b := WideShapes.bytes_inj h
theorem fdat_inj {x y : FT} (h : fdat x = fdat y) : x = y := by
  obtain ⟨a, b, c, d⟩ := x
  obtain ⟨a', b', c', d'⟩ := y
  simp only [fdat, DataW.agg.injEq, List.cons.injEq, DataW.lit.injEq, Lit.string.injEq, Lit.int.injEq, true_and, and_true] at h
  obtain ⟨h1, h2, h3, h4⟩ := h
  rw [bytes_ext h1, h2, h3, bytes_ext h4]
def fateElem : Value → Option (DataW Unit × List MemPlace)
  | .agg cs => match cs.toList with
    | [.string f, .int .i64 s, .int .i64 k, .string b] => some (fdat ⟨f, s, k, b⟩, [])
    | _ => none
  | _ => none
theorem fateElem_mk (x : FT) : fateElem (.agg x.cs) = some (fdat x, []) := rfl
theorem fateElem_inv {v : Value} {x : FT} {ps : List MemPlace} (h : fateElem v = some (fdat x, ps)) : v = .agg x.cs := by
  unfold fateElem at h
  split at h
  · rename_i cs
    split at h
    · rename_i f s k b he
      simp only [Option.some.injEq, Prod.mk.injEq] at h
      have := fdat_inj h.1
      subst this
      have e : cs = #[.string f, .int .i64 s, .int .i64 k, .string b] := by rw [← Array.toArray_toList (xs := cs), he]
      rw [e]; rfl
    · cases h
  · cases h
theorem zeroFate (w : World) : (zeroValue 140).run Tryz.prog w = .ok (.agg FT.zero.cs) w := by kernel_rfl
/-- The first of a list that names the file and the sector. -/
def firstF (ls : List FT) (k : Key) (s : Int) : Option FT := ls.find? (fun x => x.file.data.toList == k && decide (x.sector = s))
theorem firstF_abs (ls : List FT) (k : Key) (s : Nat) : fateOf (ls.map FT.abs) k s = (firstF ls k (s : Int)).map FT.abs := by
  unfold fateOf firstF
  rw [List.find?_map]
  rfl
theorem firstF_snoc (ls : List FT) (x : FT) (k : Key) (s : Int) : firstF (ls ++ [x]) k s = (firstF ls k s).or (if x.file.data.toList = k ∧ x.sector = s then some x else none) := by
  unfold firstF
  rw [List.find?_append]
  congr 1
  rw [List.find?_cons]
  by_cases h : x.file.data.toList = k ∧ x.sector = s
  · rw [if_pos h]
    have : (x.file.data.toList == k && decide (x.sector = s)) = true := by simp [h.1, h.2]
    rw [this]
  · rw [if_neg h]
    have : (x.file.data.toList == k && decide (x.sector = s)) = false := by
      rw [Bool.and_eq_false_iff, beq_eq_false_iff_ne, decide_eq_false_iff_not]
      by_cases h1 : x.file.data.toList = k
      · exact .inr (fun h2 => h ⟨h1, h2⟩)
      · exact .inl h1
    rw [this]; rfl
structure FMap (D : DataW Unit) (ls : List FT) (k : Key) : Prop where
  has : ∀ s : Int, Maps.has D (.int .i64 s) = (firstF ls k s).isSome
  at_ : ∀ (s : Int) x z, firstF ls k s = some x → D.atKey (.int .i64 s) z = fdat x
theorem FMap.start (k : Key) : FMap (.map []) [] k := ⟨fun _ => rfl, fun _ _ _ h => by simp [firstF] at h⟩
theorem FMap.skip {D : DataW Unit} {ls : List FT} {k : Key} {x : FT} (h : FMap D ls k) (hx : x.file.data.toList ≠ k ∨ (firstF ls k x.sector).isSome = true) : FMap D (ls ++ [x]) k := by
  have e : ∀ s, firstF (ls ++ [x]) k s = firstF ls k s := fun s => by
    rw [firstF_snoc]
    by_cases hc : x.file.data.toList = k ∧ x.sector = s
    · rw [if_pos hc]
      rcases hx with hx | hx
      · exact absurd hc.1 hx
      · rw [← hc.2]
        obtain ⟨y, hy⟩ := Option.isSome_iff_exists.1 hx
        rw [hy]; rfl
    · rw [if_neg hc]; cases firstF ls k s <;> rfl
  exact ⟨fun s => by rw [e]; exact h.has s, fun s y z hy => h.at_ s y z (by rw [← e]; exact hy)⟩
theorem FMap.add {D : DataW Unit} {ls : List FT} {k : Key} {x : FT} (h : FMap D ls k) (hD : IsMap D) (hx : x.file.data.toList = k) (hn : firstF ls k x.sector = none) : FMap (D.put (.int .i64 x.sector) (fdat x)) (ls ++ [x]) k := by
  refine ⟨fun s => ?_, fun s y z hy => ?_⟩
  · rw [firstF_snoc]
    by_cases e : s = x.sector
    · subst e
      rw [has_put_same hD (by trivial), hn, if_pos ⟨hx, rfl⟩]; rfl
    · rw [has_put_other (fun q => e (by cases q; rfl)), h.has, if_neg (fun q => e q.2.symm)]
      cases firstF ls k s <;> rfl
  · rw [firstF_snoc] at hy
    by_cases e : s = x.sector
    · subst e
      rw [hn, if_pos ⟨hx, rfl⟩] at hy
      rw [atKey_put_same hD (by trivial)]
      have : x = y := by simpa using hy
      rw [this]
    · rw [if_neg (fun q => e q.2.symm)] at hy
      rw [atKey_put_other (fun q => e (by cases q; rfl))]
      refine h.at_ s y z ?_
      cases hq : firstF ls k s with
      | none => rw [hq] at hy; cases hy
      | some u => rw [hq] at hy; exact hy
theorem look_fate {w : World} {mf n : Nat} {D : DataW Unit} {ls : List FT} {k : Key} (ho : w.ownsMap Tryz.prog 3 fateElem mf n D) (hm : FMap D ls k) (s : Int) (hs : (Lit.int .i64 s).wf = true) :
    (Instr.lookup 107 (.map (some mf)) (.int .i64 s) true).run Tryz.prog w = .ok (.tuple #[.agg ((firstF ls k s).getD FT.zero).cs, .bool (firstF ls k s).isSome]) w ∧
    (Instr.lookup 107 (.map (some mf)) (.int .i64 s) false).run Tryz.prog w = .ok (.agg ((firstF ls k s).getD FT.zero).cs) w := by
  obtain ⟨v, ps, hr, hv⟩ := ho.look_ok law3 Tryz.underlying107 (zeroFate w) (fateElem_mk FT.zero) (keyOf_int_mk Tryz.underlying3 hs)
  obtain ⟨v', ps', hr', hv'⟩ := ho.lookup law3 Tryz.underlying107 (zeroFate w) (fateElem_mk FT.zero) (keyOf_int_mk Tryz.underlying3 hs)
  have e : D.atKey (.int .i64 s) (fdat FT.zero) = fdat ((firstF ls k s).getD FT.zero) := by
    cases hq : firstF ls k s with
    | none =>
      have := hm.has s
      rw [hq] at this
      rw [atKey_of_not_has this]; rfl
    | some x => rw [hm.at_ s x _ hq]; rfl
  rw [e] at hv hv'
  rw [hm.has s] at hr
  rw [hr, hr', fateElem_inv hv, fateElem_inv hv']
  exact ⟨rfl, rfl⟩
theorem take_snoc {α : Type} (l : List α) (k : Nat) (h : k < l.length) : l.take (k + 1) = l.take k ++ [l[k]] := by rw [List.take_succ_eq_append_getElem h]
set_option maxRecDepth 5000 in
set_option maxHeartbeats 1000000 in
theorem fatesOf_any (w : World) (s : ByteArray) (ad : Option Addr) (ls : List FT) (cap : Nat) (h : FatesAt w ad ls) (hok : ∀ x ∈ ls, x.Ok) (hl : ls.length ≤ 9223372036854775807) :
    Calls Tryz.prog 50 #[.string s, .slice ad ls.length cap] w fun e w' => ∃ mf n D, e = .returned (.map (some mf)) ∧ w'.ownsMap Tryz.prog 3 fateElem mf n D ∧ FMap D ls s.data.toList ∧ w.heap.size ≤ mf ∧ Below w.heap.size w w' := by
  have hmm := @run_makeMap Tryz.prog
  obtain ⟨mf, hmf⟩ : ∃ mf, w.heap.size = mf := ⟨_, rfl⟩
  obtain ⟨w1, hw1⟩ : ∃ w1, w.alloc (.map #[] 0) = w1 := ⟨_, rfl⟩
  have hmk : (Instr.makeMap 107 none).run Tryz.prog w = .ok (.map (some mf)) w1 := by rw [← hmf, ← hw1]; exact hmm _ w
  have ho1 : w1.ownsMap Tryz.prog 3 fateElem mf 0 (.map []) := by rw [← hw1, ← hmf]; exact World.ownsMap_made w Tryz.prog 3 fateElem
  have hb1 : Below w.heap.size w w1 := by rw [← hw1]; exact (Below.refl _ _).alloc (Nat.le_refl _) _
  have hs1 : w1.heap.size = mf + 1 := by rw [← hw1, ← hmf]; simp
  have hlt : ∀ b o, ad = some ⟨b, o, none⟩ → ls ≠ [] → b < w.heap.size := fun b o ha hne => by
    rcases h with h | ⟨b', o', ha', hl', _⟩
    · exact absurd h hne
    · rw [ha] at ha'; cases ha'; exact hl'
  have HF := hide h
  have HK := hide hok
  have HO1 := hide ho1
  have HB1 := hide hb1
  have HS1 := hide hs1
  have HMF := hide hmf
  have HLT := hide hlt
  clear h hok ho1 hb1 hs1 hmm hw1 hmf hlt
  go_enter Tryz.func50, Tryz.ntmps50
  go_wp2
  clear hmk
  go_loopw [13] (fun i wr => ∃ (k : Nat) (D : DataW Unit), k ≤ ls.length ∧ i = .int .i64 (k : Int) ∧ wr.ownsMap Tryz.prog 3 fateElem mf k D ∧ FMap D (ls.take k) s.data.toList ∧ Below w.heap.size w wr ∧ mf < wr.heap.size) (fun i _ => ls.length - (intOf i).toNat)
  case atStart => exact ⟨0, _, by omega, rfl, HO1.out, by rw [List.take_zero]; exact FMap.start _, HB1.out, by rw [HS1.out]; omega⟩
  case round =>
    obtain ⟨k, D, hk, rfl, hown, hfm, hbw, hmr⟩ := hrel
    have HO := hide hown
    have HM := hide hfm
    have HB := hide hbw
    clear hown hfm hbw
    by_cases hlt : k < ls.length
    · have dk : decide ((k : Int) < (ls.length : Int)) = true := decide_eq_true (by omega)
      have hk0 : (0 : Int) ≤ (k : Int) := by omega
      have hk1 : (k : Int) < (ls.length : Int) := by omega
      rcases HF.out with h | ⟨b, o, rfl, hbl, hcs⟩
      · rw [h] at hlt; exact absurd hlt (by simp)
      obtain ⟨x, hx⟩ : ∃ x, ls[k] = x := ⟨_, rfl⟩
      have hcell : ∀ j, j < 4 → wr.cell? ⟨b, o + k * 4 + j, none⟩ = (x.cs)[j]? := fun j hj => by
        rw [World.cell?_of_block (HB.out.block b hbl), hcs k hlt j hj, hx]
      have f0 : wr.cell? ⟨b, o + k * 4, none⟩ = some (.string x.file) := hcell 0 (by omega)
      have f1 : wr.cell? ⟨b, o + k * 4 + 1, none⟩ = some (.int .i64 x.sector) := hcell 1 (by omega)
      have f2 : wr.cell? ⟨b, o + k * 4 + 2, none⟩ = some (.int .i64 x.kind) := hcell 2 (by omega)
      have f3 : wr.cell? ⟨b, o + k * 4 + 3, none⟩ = some (.string x.bytes) := hcell 3 (by omega)
      have hxo := HK.out x (by rw [← hx]; exact List.getElem_mem hlt)
      have HTK : Hid (ls.take (k + 1) = ls.take k ++ [x]) := by show _ = _; rw [take_snoc ls k hlt, hx]
      clear hcell hcs
      have hown1 := HO.out.alloc (.cells #[.string x.file, .int .i64 x.sector, .int .i64 x.kind, .string x.bytes] 140)
      have hwf : (Lit.int .i64 x.sector).wf = true := WalkArith.wf_i64 ⟨hxo.s0, by have := hxo.s1; omega⟩
      have hlk := (look_fate hown1 HM.out x.sector hwf).1
      obtain ⟨y, hy⟩ : ∃ y, (firstF (ls.take k) s.data.toList x.sector).getD FT.zero = y := ⟨_, rfl⟩
      rw [hy] at hlk
      simp only [FT.cs] at hlk
      have HO1' := hide hown1
      have HWF := hide hwf
      have hb1' := HB.out.alloc (by have := HB.out.size; omega) (.cells #[.string x.file, .int .i64 x.sector, .int .i64 x.kind, .string x.bytes] 140)
      have HB1' := hide hb1'
      clear hown1 hwf hb1' hy
      by_cases hfe : x.file = s
      · have hbe : (x.file.toList == s.toList) = true := by rw [hfe]; simp
        cases hq : firstF (ls.take k) s.data.toList x.sector with
        | some z =>
          rw [hq] at hlk
          have HSK := hide (HM.out.skip (x := x) (.inr (by rw [hq]; rfl)))
          simp only [Option.isSome_some] at hlk
          clear hfe hq
          go_wp2
          go_roundw
          case rel => exact ⟨k + 1, D, by omega, by go_num, ((HO1'.out.alloc _).mono (by omega)), by rw [HTK.out]; exact HSK.out, HB1'.out.alloc (by have := HB1'.out.size; simp at this ⊢; omega) _, by simp; omega⟩
          case measure => simp [intOf]; omega
        | none =>
          rw [hq] at hlk
          have HSK := hide (HM.out.add (x := x) HO.out.isMap (by rw [hfe]) hq)
          simp only [Option.isSome_none] at hlk
          clear hfe hq
          go_wp2_with (first | (at_mapUpdate; refine wpList_mapUpdate_own _ rfl _ _ _ 107 rfl 3 140 law3 Tryz.underlying107 fateElem mf k D rfl (HO1'.out.alloc _) (by unfold maxLen; omega) _ _ _ rfl rfl (keyOf_int_mk Tryz.underlying3 HWF.out) _ [] (fateElem_mk x) ?_; intro w7 hown7 hgr7; go_frame) | go_in)
          go_roundw
          case rel => exact ⟨k + 1, _, by omega, by go_num, hown7, by rw [HTK.out]; exact HSK.out, (HB1'.out.alloc (by have := HB1'.out.size; simp at this ⊢; omega) _).grown hgr7 (by have := HB1'.out.size; simp at this ⊢; omega) (fun j hj => by cases hj; rw [HMF.out]; exact Nat.le_refl _), by have := hgr7.size; simp at this; omega⟩
          case measure => simp [intOf]; omega
      · have hbe : (x.file.toList == s.toList) = false := by
          rw [beq_eq_false_iff_ne, ByteArray.toList_eq, ByteArray.toList_eq]
          exact fun e => hfe (bytes_ext e)
        have HSK := hide (HM.out.skip (x := x) (.inl (fun e => hfe (bytes_ext e))))
        clear hfe hlk
        go_wp2
        go_roundw
        case rel => exact ⟨k + 1, D, by omega, by go_num, HO1'.out.mono (by omega), by rw [HTK.out]; exact HSK.out, HB1'.out, by simp; omega⟩
        case measure => simp [intOf]; omega
    · have hkl : k = ls.length := by omega
      subst hkl
      have dk : decide ((ls.length : Int) < (ls.length : Int)) = false := decide_eq_false (by omega)
      go_wp2
      go_ret
      refine ⟨mf, _, D, rfl, HO.out, ?_, by rw [HMF.out]; exact Nat.le_refl _, HB.out⟩
      have := HM.out
      rw [List.take_length] at this
      exact this
end Go.Proofs.YtlkimfmilccanaaGreat
/-
  lengthBehind.
-/
namespace Go.Proofs.YtlkimfmilccanaaGreat
open Go.RowKit Go.Maps Go.WideMaps
set_option linter.unusedVariables false
def ftOf (ls : List FT) (k : Key) : Nat → Option AFate := fateOf (ls.map FT.abs) k
def yOf (ls : List FT) (k : Key) (s : Nat) : FT := (firstF ls k (s : Int)).getD FT.zero
theorem hits_y (ls : List FT) (k : Key) (s : Nat) : hits (ftOf ls k s) = decide ((yOf ls k s).kind = 1 ∨ (yOf ls k s).kind = 2) := by
  unfold ftOf yOf
  rw [firstF_abs]
  cases firstF ls k (s : Int) with
  | none => rfl
  | some x => rfl
def endOf (F : AF) (s : Nat) : Nat := min (64 * s + 64) F.seen.length
def lenNot (F : AF) (ft : Nat → Option AFate) (left : Lit → Bool) : Nat :=
  (List.range F.nsec).foldl (fun m s => if F.dirty s && hits (ft s) && !left (.int .i64 (s : Int)) then max m (endOf F s) else m) F.safe.length
section
variable {F : AF} {ft : Nat → Option AFate} {left : Lit → Bool}
theorem lenNot_le {M : Nat} (h0 : F.safe.length ≤ M) (h : ∀ s, s < F.nsec → F.dirty s = true → hits (ft s) = true → left (.int .i64 (s : Int)) = false → endOf F s ≤ M) : lenNot F ft left ≤ M := by
  unfold lenNot
  refine foldl_max_le (fun s => F.dirty s && hits (ft s) && !left (.int .i64 (s : Int))) (endOf F) M _ _ h0 (fun s hs hp => ?_)
  simp only [Bool.and_eq_true, Bool.not_eq_true'] at hp
  exact h s (List.mem_range.1 hs) hp.1.1 hp.1.2 hp.2
theorem lenNot_ge : F.safe.length ≤ lenNot F ft left := foldl_max_ge (fun s => F.dirty s && hits (ft s) && !left (.int .i64 (s : Int))) (endOf F) _ _
theorem lenNot_mem {s : Nat} (hs : s < F.nsec) (hd : F.dirty s = true) (hh : hits (ft s) = true) (hl : left (.int .i64 (s : Int)) = false) : endOf F s ≤ lenNot F ft left :=
  foldl_max_mem (fun s => F.dirty s && hits (ft s) && !left (.int .i64 (s : Int))) (endOf F) _ _ s (List.mem_range.2 hs) (by simp [hd, hh, hl])
theorem lenNot_seen (h : F.Ok) : lenNot F ft left ≤ F.seen.length := lenNot_le h.le (fun s _ _ _ _ => Nat.min_le_right _ _)
theorem lenNot_start (h : F.Ok) : lenNot F ft (Maps.has (dirtyD F)) = F.safe.length := by
  refine Nat.le_antisymm (lenNot_le (Nat.le_refl _) (fun s _ hd _ hl => ?_)) lenNot_ge
  rw [dirty_has h, decide_eq_true (by omega), Int.toNat_natCast, hd] at hl
  cases hl
theorem lenNot_end (hl : ∀ kl, left kl = false) : lenNot F ft left = F.len ft := by
  refine Nat.le_antisymm (lenNot_le (AF.len_ge F ft) (fun s hs hd hh _ => ?_)) ?_
  · unfold AF.len
    exact foldl_max_mem (fun s => F.dirty s && hits (ft s)) (endOf F) _ _ s (List.mem_range.2 hs) (by simp [hd, hh])
  · unfold AF.len
    refine foldl_max_le (fun s => F.dirty s && hits (ft s)) (endOf F) _ _ _ lenNot_ge (fun s hs hp => ?_)
    simp only [Bool.and_eq_true] at hp
    exact lenNot_mem (List.mem_range.1 hs) hp.1 hp.2 (hl _)
theorem struck_left (s t : Nat) : (left (.int .i64 (t : Int)) && !(Lit.int .i64 (t : Int)).sameKey (.int .i64 (s : Int))) = false ↔ t = s ∨ left (.int .i64 (t : Int)) = false := by
  by_cases e : t = s
  · subst e; simp [Lit.sameKey]
  · have : (Lit.int .i64 (t : Int)).sameKey (.int .i64 (s : Int)) = false := by simp [Lit.sameKey]; omega
    rw [this]; simp [e]
theorem lenNot_hit (h : F.Ok) {s : Nat} (hd : F.dirty s = true) (hh : hits (ft s) = true) : lenNot F ft (fun z => left z && !z.sameKey (.int .i64 (s : Int))) = max (lenNot F ft left) (endOf F s) := by
  refine Nat.le_antisymm (lenNot_le ?_ (fun t ht hdt hht hl => ?_)) (Nat.max_le.2 ⟨lenNot_le lenNot_ge (fun t ht hdt hht hl => ?_), ?_⟩)
  · have := lenNot_ge (F := F) (ft := ft) (left := left); omega
  · rcases (struck_left s t).1 hl with rfl | hl
    · omega
    · have := lenNot_mem (ft := ft) ht hdt hht hl; omega
  · exact lenNot_mem ht hdt hht ((struck_left s t).2 (.inr hl))
  · exact lenNot_mem (AF.dirty_nsec h s hd) hd hh ((struck_left s s).2 (.inl rfl))
theorem lenNot_miss {s : Nat} (hh : hits (ft s) = false) : lenNot F ft (fun z => left z && !z.sameKey (.int .i64 (s : Int))) = lenNot F ft left := by
  refine Nat.le_antisymm (lenNot_le lenNot_ge (fun t ht hdt hht hl => ?_)) (lenNot_le lenNot_ge (fun t ht hdt hht hl => ?_))
  · rcases (struck_left s t).1 hl with rfl | hl
    · rw [hh] at hht; cases hht
    · exact lenNot_mem ht hdt hht hl
  · exact lenNot_mem ht hdt hht ((struck_left s t).2 (.inr hl))
end
theorem endOf_eq {F : AF} (h : F.Ok) {s : Nat} (hd : F.dirty s = true) : 64 * s + (sTo s F.seen.length - sFrom s F.seen.length) = endOf F s := by
  have h1 := h.dl s hd
  unfold endOf sTo sFrom
  omega
theorem field_kind (f b : ByteArray) (s k : Int) (w : World) : (Instr.field 140 (.agg #[.string f, .int .i64 s, .int .i64 k, .string b]) 2).run Tryz.prog w = .ok (.int .i64 k) w := by kernel_rfl
theorem Piece.shape {u : Value} {B : Option Nat} {o n : Nat} (h : Piece u B o n) : ∃ ad cp, u = .slice ad n cp := by
  obtain ⟨ad, cp, rfl, _⟩ := h
  exact ⟨ad, cp, rfl⟩
set_option maxRecDepth 5000 in
set_option maxHeartbeats 1000000 in
theorem lenB_any (w : World) (c : FC) (F : AF) (h : FileAt w c F) (mf nf : Nat) (D : DataW Unit) (ls : List FT) (k : Key) (ho : w.ownsMap Tryz.prog 3 fateElem mf nf D) (hm : FMap D ls k) :
    Calls Tryz.prog 82 #[.pointer (some ⟨c.g, 0, none⟩), .map (some mf)] w fun e w' => e = .returned (.int .i64 (F.len (ftOf ls k) : Int)) ∧ Below w.heap.size w w' := by
  have HH := hide h
  have HO := hide ho
  have HM := hide hm
  have c1 := h.c1
  have c2 := h.c2
  have hok := h.ok
  have hmo := hok.most
  obtain ⟨ad, cp, hv⟩ := h.seen.shape
  obtain ⟨ad1, cp1, hv1⟩ := h.safe.shape
  rw [hv1] at c1
  have HV := hide hv
  have hms := ho.lt
  clear h ho hm hv hv1
  go_enter Tryz.func82, Tryz.ntmps82
  go_wp2_with (first | (at_range; refine wpList_range_dirty _ rfl _ rfl F c.dm (by rfl) HH.out.dirty ?_; intro w4 hrg4 hb4 hlt4) | go_in)
  try go_frame
  clear c1 c2
  go_loopw [5] (fun v wr => ∃ left cnt, wr.ranges Tryz.prog 3 (unitElem (H := Unit)) c.dm w.heap.size 16384 (dirtyD F) left cnt ∧ v = .int .i64 (lenNot F (ftOf ls k) left : Int) ∧ Below w.heap.size w wr ∧ w.heap.size < wr.heap.size) (fun _ wr => wr.rangeLeft c.dm w.heap.size)
  case atStart => exact ⟨_, _, hrg4, by rw [lenNot_start hok], hb4, hlt4⟩
  case round =>
    clear hrg4 hb4 hlt4
    obtain ⟨left, cnt, hrg, rfl, hb, hlt⟩ := hrel
    have HR := hide hrg
    have HB := hide hb
    clear hrg hb
    have hln := lenNot_seen (ft := ftOf ls k) (left := left) hok
    go_wp2_with (first | (at_next; refine wpList_next_dirty _ rfl _ rfl F hok c.dm w.heap.size 16384 left cnt (by rfl) HR.out ?_ ?_) | go_in)
    · intro hl0
      have HE := hide (lenNot_end (F := F) (ft := ftOf ls k) hl0)
      clear hl0 hln
      go_wp2
      go_ret
      exact ⟨by rw [HE.out]; rfl, HB.out⟩
    · intro s w5 cnt5 hd hs hlk hrg5 hlt5 hg5 hen
      have hb5 := HB.out.grown hg5 (Nat.le_of_lt hlt) (fun j hj => by cases hj; exact Nat.le_refl _)
      have hsz5 := hg5.size
      have hf5 := HH.out.later hb5
      have ho5 := ownsMap_same HO.out (hb5.block mf hms)
      have hl5 := (look_fate ho5 HM.out (s : Int) (wf_nat s (by omega))).2
      obtain ⟨y, hy⟩ : ∃ y, yOf ls k s = y := ⟨_, rfl⟩
      have HHT : Hid (hits (ftOf ls k s) = decide (y.kind = 1 ∨ y.kind = 2)) := by show _ = _; rw [hits_y, hy]
      unfold yOf at hy
      rw [hy] at hl5
      simp only [FT.cs] at hl5
      have x0 := hf5.c0
      rw [HV.out] at x0
      obtain ⟨u, hp, hcall⟩ := sector_any w5 _ _ hf5.seen s hs (by omega)
      rw [HV.out] at hcall
      obtain ⟨au, cu, hu⟩ := hp.shape
      have HEO := hide (endOf_eq hok hd)
      obtain ⟨q, hq⟩ : ∃ q, sTo s F.seen.length - sFrom s F.seen.length = q := ⟨_, rfl⟩
      have hql : q ≤ F.seen.length := by rw [← hq]; have := sTo_le s F.seen.length; omega
      rw [hq] at hu HEO
      subst hu
      have hfk := field_kind y.file y.bytes y.sector y.kind w5
      have HR5 := hide hrg5
      have HL5 := hide hlt5
      have HB5 := hide hb5
      have HD := hide hd
      have hs64 : (s : Int) < 16384 := by omega
      have hq64 : (q : Int) ≤ 1048576 := by omega
      clear hrg5 hlt5 hb5 hf5 ho5 hp hd hq hlk hg5 hy
      by_cases h1 : y.kind = 1
      · have d1 : (y.kind == 1) = true := beq_iff_eq.2 h1
        have HMS : Hid (hits (ftOf ls k s) = true) := by show _ = _; rw [HHT.out]; exact decide_eq_true (by omega)
        have HNX := hide (lenNot_hit (left := left) hok HD.out HMS.out)
        obtain ⟨M, hM⟩ : ∃ M, lenNot F (ftOf ls k) left = M := ⟨_, rfl⟩
        obtain ⟨M2, hM2⟩ : ∃ M2, max M (endOf F s) = M2 := ⟨_, rfl⟩
        have HMX : Hid (max (M : Int) ((s : Int) * 64 + (q : Int)) = (M2 : Int)) := by show _ = _; have := HEO.out; omega
        rw [hM] at hln HNX ⊢
        rw [hM2] at HNX
        clear h1 hM hM2
        go_wp2_with fail
        refine (hcall _).mono ?_
        rintro e w6 ⟨rfl, rfl⟩
        go_wp2
        go_roundw
        case rel => exact ⟨_, cnt5, HR5.out, by rw [HNX.out]; exact congrArg _ HMX.out, HB5.out, by omega⟩
        case measure => rw [HR5.out.left_eq, HR.out.left_eq]; exact HL5.out
      · by_cases h2 : y.kind = 2
        · have d1 : (y.kind == 1) = false := beq_eq_false_iff_ne.2 h1
          have d2 : (y.kind == 2) = true := beq_iff_eq.2 h2
          have HMS : Hid (hits (ftOf ls k s) = true) := by show _ = _; rw [HHT.out]; exact decide_eq_true (by omega)
          have HNX := hide (lenNot_hit (left := left) hok HD.out HMS.out)
          obtain ⟨M, hM⟩ : ∃ M, lenNot F (ftOf ls k) left = M := ⟨_, rfl⟩
          obtain ⟨M2, hM2⟩ : ∃ M2, max M (endOf F s) = M2 := ⟨_, rfl⟩
          have HMX : Hid (max (M : Int) ((s : Int) * 64 + (q : Int)) = (M2 : Int)) := by show _ = _; have := HEO.out; omega
          rw [hM] at hln HNX ⊢
          rw [hM2] at HNX
          clear h1 h2 hM hM2
          go_wp2_with fail
          refine (hcall _).mono ?_
          rintro e w6 ⟨rfl, rfl⟩
          go_wp2
          go_roundw
          case rel => exact ⟨_, cnt5, HR5.out, by rw [HNX.out]; exact congrArg _ HMX.out, HB5.out, by omega⟩
          case measure => rw [HR5.out.left_eq, HR.out.left_eq]; exact HL5.out
        · have d1 : (y.kind == 1) = false := beq_eq_false_iff_ne.2 h1
          have d2 : (y.kind == 2) = false := beq_eq_false_iff_ne.2 h2
          have HMS : Hid (hits (ftOf ls k s) = false) := by show _ = _; rw [HHT.out]; exact decide_eq_false (by omega)
          clear h1 h2
          go_wp2
          go_roundw
          case rel => exact ⟨_, cnt5, HR5.out, by rw [lenNot_miss HMS.out], HB5.out, by omega⟩
          case measure => rw [HR5.out.left_eq, HR.out.left_eq]; exact HL5.out
end Go.Proofs.YtlkimfmilccanaaGreat
