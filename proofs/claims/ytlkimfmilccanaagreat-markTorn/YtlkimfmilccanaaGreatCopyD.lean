import Derived.Test.YtlkimfmilccanaaGreatLists
import Derived.Lib.SliceRun
/-
  Copy.
-/
namespace Go.Proofs.YtlkimfmilccanaaGreat
open Go.RowKit Go.Maps Go.WideMaps Go.Sort Go.Shelf
set_option linter.unusedSimpArgs false
set_option maxRecDepth 5000 in
set_option maxHeartbeats 400000 in
theorem cloneB_any (w : World) (v : Value) (l : List UInt8) (h : Bytes w 0 v l) (hl : l.length ≤ 140737488355328) :
    Calls Tryz.prog 84 #[v] w fun e w' => ∃ v', e = .returned v' ∧ Bytes w' 0 v' l ∧ (∀ b, v'.ownBlock = some b → w.heap.size ≤ b) ∧ Below w.heap.size w w' := by
  have hq : ∀ (w : World) (a : Option Addr) (n c n' c' : Nat), (binOp .eql 42 (.slice a n c) (.slice none n' c')).run Tryz.prog w = .ok (.bool a.isNone) w := fun w a n c n' c' => Lib.run_eql_slice_nil w _ _ a n c n' c' Tryz.underlying42
  rcases h.2 with ⟨rfl, hn⟩ | ⟨g, cap, cur, rfl, hb0, hgg, hnc, hcm, hcs, ht⟩
  · have e0 : l = [] := List.length_eq_zero_iff.1 hn
    subst e0
    clear h
    go_enter Tryz.func84, Tryz.ntmps84
    go_wp2
    go_ret
    exact ⟨.slice none 0 0, rfl, Bytes.nil _ _, by simp [Value.ownBlock], Below.refl _ _⟩
  · have hB1 : Bytes (w.alloc (.cells #[] 5)) 0 (.slice (some ⟨w.heap.size, 0, none⟩) 0 0) [] := World.ownsRow_made w #[] 0 (Nat.zero_le _) (Nat.zero_le _) rfl
    have hw1 : Bytes (w.alloc (.cells #[] 5)) 0 (.slice (some ⟨g, 0, none⟩) l.length cap) l := h.same (fun k hk => Below.heap_alloc w _ k (h.lt k hk))
    have hsrc := src_piece hw1 (Piece.whole hw1) (by omega)
    have e9 : (l.drop 0).take l.length = l := by rw [List.drop_zero, List.take_length]
    rw [e9] at hsrc
    have HB := hide hB1
    have HS := hide hsrc
    have hgl := lt_of_some hgg
    clear hB1 hw1 hsrc e9 h
    go_enter Tryz.func84, Tryz.ntmps84
    go_wp2_with (first | (at_builtin; refine wpList_append_src rfl _ _ 42 rfl 0 (.slice (some ⟨w.heap.size, 0, none⟩) 0 0) [] (by rfl) HB.out (.slice (some ⟨g, 0, none⟩) l.length cap) l (by rfl) HS.out (by simpa using hl) (Nat.zero_le _) ?_; intro ad2 n2 c2 w2 hB2 hM2) | go_in)
    go_ret
    refine ⟨.slice ad2 n2 c2, rfl, by simpa using hB2, fun b hb => ?_, ?_⟩
    · rcases hM2.own b hb with x | x
      · have : b = w.heap.size := by simpa [Value.ownBlock] using x.symm
        omega
      · simp at x; omega
    · exact ((Below.refl _ _).alloc (Nat.le_refl _) _).grown hM2.gr (by simp) (fun j hj => by simp [Value.ownBlock] at hj; omega)
-- left out in this seat: cloneM_any
/-- What the call has made so far stands in later worlds. -/
theorem Bytes.later {w w' : World} {v : Value} {l : List UInt8} (h : Bytes w 0 v l) (b : Below w.heap.size w w') : Bytes w' 0 v l := h.same (fun k hk => b.block k (h.lt k hk))
theorem FileAt.later {w w' : World} {c : FC} {F : AF} (h : FileAt w c F) (b : Below w.heap.size w w') : FileAt w' c F := h.same (fun k hk => b.block k (h.lt k hk))
theorem own_later {w w' : World} {b n : Nat} {D : DataW Unit} (h : w.ownsMap Tryz.prog 3 (unitElem (H := Unit)) b n D) (k : Below w.heap.size w w') : w'.ownsMap Tryz.prog 3 (unitElem (H := Unit)) b n D := ownsMap_same h (k.block b h.lt)
/-- The copy's struct. -/
theorem copy_file {w w4 : World} {F : AF} {v1 v2 : Value} {m3 : Nat} (hok : F.Ok) (h1 : Bytes w4 0 v1 F.seen) (o1 : ∀ b, v1.ownBlock = some b → w.heap.size ≤ b) (h2 : Bytes w4 0 v2 F.safe) (o2 : ∀ b, v2.ownBlock = some b → w.heap.size ≤ b) (h3 : w4.ownsMap Tryz.prog 3 (unitElem (H := Unit)) m3 16384 (dirtyD F)) (o3 : w.heap.size ≤ m3) (hne : ∀ b, v1.ownBlock = some b → v2.ownBlock ≠ some b) (hs : w.heap.size ≤ w4.heap.size) :
    ∃ c', c'.g = w4.heap.size ∧ FileAt (w4.alloc (.cells #[v1, v2, .map (some m3)] 99)) c' F ∧ ∀ b, c'.has b → w.heap.size ≤ b := by
  have e : ∀ b, b < w4.heap.size → (w4.alloc (.cells #[v1, v2, .map (some m3)] 99)).heap[b]? = w4.heap[b]? := fun b hb => Below.heap_alloc w4 _ b hb
  refine ⟨⟨w4.heap.size, m3, v1, v2⟩, rfl, ⟨hok, heap_alloc_new w4 _, h1.same (fun k hk => e k (h1.lt k hk)), h2.same (fun k hk => e k (h2.lt k hk)), ownsMap_same h3 (e m3 h3.lt), fun x => ?_, fun x => ?_, hne⟩, fun b hb => ?_⟩
  · have := h1.lt _ x; simp at this
  · have := h2.lt _ x; simp at this
  · rcases hb with rfl | rfl | hb | hb
    · exact hs
    · exact o3
    · exact o1 b hb
    · exact o2 b hb
-- left out in this seat: fcopy_any
end Go.Proofs.YtlkimfmilccanaaGreat
/-
  Copy of a disk.
-/
namespace Go.Proofs.YtlkimfmilccanaaGreat
open Go.RowKit Go.Maps Go.WideMaps
set_option linter.unusedSimpArgs false
set_option linter.unusedVariables false
theorem run_makeMap_hint (w : World) (k : Int) : (Instr.makeMap 82 (some (.int .i64 k))).run Tryz.prog w = .ok (.map (some w.heap.size)) (w.alloc (.map #[] 0)) := by
  simp [Instr.makeMap, run_underlying Tryz.underlying82, asInt, asIntOf, Result.andThen]
theorem fsD_canon (con : Key → FC) {fs : FList} (h : fs.Pairwise (fun p q => bytesBefore p.1 q.1 = true)) : Canon (fsD con fs) := by
  refine ⟨_, rfl, ?_, fun p hp => ?_⟩
  · rw [List.pairwise_map]
    exact h.imp (fun {a b} hab => hab)
  · obtain ⟨q, _, rfl⟩ := List.mem_map.1 hp
    exact trivial
theorem fsD_has_lit (con con' : Key → FC) (fs : FList) (kl : Lit) : Maps.has (fsD con fs) kl = Maps.has (fsD con' fs) kl := by
  unfold fsD
  rw [Maps.has_eq, Maps.has_eq, List.any_map, List.any_map]
  rfl
theorem nodup_sub {α : Type} [DecidableEq α] : ∀ {l m : List α}, l.Nodup → (∀ x ∈ l, x ∈ m) → l.length ≤ m.length
  | [], _, _, _ => Nat.zero_le _
  | a :: l, m, h, hs => by
    obtain ⟨h1, h2⟩ := List.nodup_cons.1 h
    have ha := hs a (by simp)
    have ih := nodup_sub (m := m.erase a) h2 (fun x hx => (List.mem_erase_of_ne (fun e : x = a => h1 (e ▸ hx))).2 (hs x (by simp [hx])))
    have hl := List.length_erase_of_mem ha
    have := List.length_pos_of_mem ha
    simp only [List.length_cons]
    omega
/-- What has been copied so far. -/
structure Copying (w : World) (m m2 : Nat) (con con2 : Key → FC) (fs : FList) (left : Lit → Bool) (D : DataW Unit) (wr : World) : Prop where
  own : ∃ n, n ≤ 16 ∧ wr.ownsMap Tryz.prog 9 ptrElem m2 n D
  has : ∀ kl, Maps.has D kl = (Maps.has (fsD con fs) kl && !left kl)
  at_ : ∀ k F z, fget fs k = some F → left (.string k) = false → D.atKey (.string k) z = .lit (.int .i64 ((con2 k).g : Int))
  file : ∀ k F, fget fs k = some F → left (.string k) = false → FileAt wr (con2 k) F
  new : ∀ k F, fget fs k = some F → left (.string k) = false → ∀ b, (con2 k).has b → w.heap.size ≤ b
  nm2 : ∀ k F, fget fs k = some F → left (.string k) = false → ¬ (con2 k).has m2
  apart : ∀ k F k' F', fget fs k = some F → left (.string k) = false → fget fs k' = some F' → left (.string k') = false → k ≠ k' → ∀ b, (con2 k).has b → ¬ (con2 k').has b
  le : w.heap.size ≤ m2
theorem Copying.start {w : World} {m : Nat} {con : Key → FC} {fs : FList} {wr : World} {m2 : Nat} (ho : wr.ownsMap Tryz.prog 9 ptrElem m2 0 (.map [])) (hm : w.heap.size ≤ m2) : Copying w m m2 con con fs (Maps.has (fsD con fs)) (.map []) wr := by
  have no : ∀ k F, fget fs k = some F → ¬ Maps.has (fsD con fs) (.string k) = false := fun k F hk h => by rw [fsD_has, hk] at h; cases h
  refine ⟨⟨0, by omega, ho⟩, fun kl => ?_, fun k F z hk hl => absurd hl (no k F hk), fun k F hk hl => absurd hl (no k F hk), fun k F hk hl => absurd hl (no k F hk), fun k F hk hl => absurd hl (no k F hk), fun k F k' F' hk hl => absurd hl (no k F hk), hm⟩
  cases Maps.has (fsD con fs) kl <;> rfl
theorem Copying.turn {w : World} {m m2 : Nat} {con con2 : Key → FC} {fs : FList} {left : Lit → Bool} {D : DataW Unit} {wr wx : World} (h : Copying w m m2 con con2 fs left D wr) (e : ∀ b, b < wr.heap.size → (b = m2 ∨ ∃ k F, fget fs k = some F ∧ left (.string k) = false ∧ (con2 k).has b) → wx.heap[b]? = wr.heap[b]?) : Copying w m m2 con con2 fs left D wx := by
  obtain ⟨n, hn, ho⟩ := h.own
  exact ⟨⟨n, hn, ownsMap_same ho (e m2 ho.lt (.inl rfl))⟩, h.has, h.at_, fun k F hk hl => (h.file k F hk hl).same (fun b hb => e b ((h.file k F hk hl).lt b hb) (.inr ⟨k, F, hk, hl, hb⟩)), h.new, h.nm2, h.apart, h.le⟩
theorem Copying.step {w : World} {m m2 : Nat} {con con2 : Key → FC} {fs : FList} {left : Lit → Bool} {D : DataW Unit} {wr wy : World} {k : Key} {F : AF} {c : FC} {n : Nat} (h : Copying w m m2 con con2 fs left D wr) (hk : fget fs k = some F) (hlk : left (.string k) = true) (hf : FileAt wy c F) (hnew : ∀ b, c.has b → wr.heap.size ≤ b) (hwr : w.heap.size ≤ wr.heap.size)
    (hs : fs.length ≤ 16) (hown : wy.ownsMap Tryz.prog 9 ptrElem m2 n (D.put (.string k) (.lit (.int .i64 (c.g : Int))))) (t : ∀ b, b < wr.heap.size → b ≠ m2 → wy.heap[b]? = wr.heap[b]?) (hsorted : fs.Pairwise (fun p q => bytesBefore p.1 q.1 = true)) :
    Copying w m m2 con (upd con2 k c) fs (fun z => left z && !z.sameKey (.string k)) (D.put (.string k) (.lit (.int .i64 (c.g : Int)))) wy := by
  obtain ⟨n0, hn0, ho0⟩ := h.own
  have hm2l := ho0.lt
  have lk : ∀ x : Key, (left (.string x) && !(Lit.string x).sameKey (.string k)) = false → x = k ∨ (x ≠ k ∧ left (.string x) = false) := fun x hx => by
    by_cases e : x = k
    · exact .inl e
    · refine .inr ⟨e, ?_⟩
      have : (Lit.string x).sameKey (.string k) = false := by simp [Lit.sameKey, e]
      rw [this] at hx
      simpa using hx
  have hisM : IsMap D := ho0.isMap
  have hhas : ∀ kl, Maps.has (D.put (.string k) (.lit (.int .i64 (c.g : Int)))) kl = (Maps.has (fsD con fs) kl && !(left kl && !kl.sameKey (.string k))) := fun kl => by
    by_cases e : kl = .string k
    · subst e
      rw [has_put_same hisM (by trivial), fsD_has, hk]
      simp [Lit.sameKey]
    · rw [has_put_other e, h.has kl]
      have : kl.sameKey (.string k) = false := sameKey_ne e
      rw [this]
      simp
  refine ⟨⟨16, Nat.le_refl _, ownsMap_exact hown ?_⟩, hhas, fun x G z hx hl => ?_, fun x G hx hl => ?_, fun x G hx hl b hb => ?_, fun x G hx hl hb => ?_, fun x G y G' hx hl hy hl' hxy b hb hb' => ?_, h.le⟩
  · -- its keys are names of files
    obtain ⟨es, hes, hel⟩ := ownsMap_elems hown
    have hc := hown.canon law9
    obtain ⟨es', he', hp', _⟩ := hc
    rw [he'] at hes
    have e1 : es' = es := by cases hes; rfl
    subst e1
    rw [he']
    show es'.length ≤ 16
    have hnd : (es'.map (·.1)).Nodup := by
      rw [List.Nodup, List.pairwise_map]
      exact apart_of_rising hp'
    have hsub : ∀ x ∈ es'.map (·.1), x ∈ fs.map (fun p => Lit.string p.1) := fun x hx => by
      obtain ⟨q, hq, rfl⟩ := List.mem_map.1 hx
      have hk1 : Maps.has (D.put (.string k) (.lit (.int .i64 (c.g : Int)))) q.1 = true := by
        rw [he']
        exact List.any_eq_true.2 ⟨q, hq, WideAt.sameKey_self (by obtain ⟨⟨v, hv⟩, _⟩ := hel q hq; exact law9.key hv)⟩
      rw [hhas] at hk1
      have hk2 := (Bool.and_eq_true_iff.1 hk1).1
      obtain ⟨y, hy, hyk⟩ := List.any_eq_true.1 hk2
      obtain ⟨f, hf', rfl⟩ := List.mem_map.1 hy
      have := WideAt.sameKey_eq hyk
      exact List.mem_map.2 ⟨f, hf', this⟩
    have := @nodup_sub Lit (fun a b => Classical.propDecidable (a = b)) _ _ hnd hsub
    simp at this
    omega
  · rcases lk x hl with rfl | ⟨e, hl⟩
    · rw [upd_same, atKey_put_same hisM (by trivial)]
    · rw [upd_ne _ _ e, atKey_put_other (fun q => e (by cases q; rfl))]
      exact h.at_ x G z hx hl
  · rcases lk x hl with rfl | ⟨e, hl⟩
    · rw [upd_same]
      have : F = G := by rw [hk] at hx; simpa using hx
      exact this ▸ hf
    · rw [upd_ne _ _ e]
      have hfx := h.file x G hx hl
      exact hfx.same (fun b hb => t b (hfx.lt b hb) (fun q => h.nm2 x G hx hl (q ▸ hb)))
  · rcases lk x hl with rfl | ⟨e, hl⟩
    · rw [upd_same] at hb; exact Nat.le_trans hwr (hnew b hb)
    · rw [upd_ne _ _ e] at hb; exact h.new x G hx hl b hb
  · rcases lk x hl with rfl | ⟨e, hl⟩
    · rw [upd_same] at hb; have := hnew _ hb; omega
    · rw [upd_ne _ _ e] at hb; exact h.nm2 x G hx hl hb
  · rcases lk x hl with ex | ⟨e, hl⟩
    · rcases lk y hl' with ey | ⟨e', hl'⟩
      · exact hxy (ex.trans ey.symm)
      · rw [ex, upd_same] at hb
        rw [upd_ne _ _ e'] at hb'
        have := hnew b hb
        have := (h.file y G' hy hl').lt b hb'
        omega
    · rw [upd_ne _ _ e] at hb
      rcases lk y hl' with ey | ⟨e', hl'⟩
      · rw [ey, upd_same] at hb'
        have := hnew b hb'
        have := (h.file x G hx hl).lt b hb
        omega
      · rw [upd_ne _ _ e'] at hb'
        exact h.apart x G y G' hx hl hy hl' hxy b hb hb'
theorem Copying.done {w : World} {m m2 : Nat} {con con2 : Key → FC} {fs : FList} {left : Lit → Bool} {D : DataW Unit} {wr : World} (h : Copying w m m2 con con2 fs left D wr) (hl : ∀ kl, left kl = false) (hs : fs.Pairwise (fun p q => bytesBefore p.1 q.1 = true)) : wr.ownsMap Tryz.prog 9 ptrElem m2 16 (fsD con2 fs) := by
  obtain ⟨n, hn, ho⟩ := h.own
  have e : D = fsD con2 fs := by
    refine Maps.ext (ho.canon law9) (fsD_canon con2 hs) (fun kl => ?_) (fun kl z hk => ?_)
    · rw [h.has kl, hl, fsD_has_lit con con2]; simp
    · rw [h.has kl, hl] at hk
      simp only [Bool.not_false, Bool.and_true] at hk
      obtain ⟨p, hp, hpk⟩ := List.any_eq_true.1 hk
      obtain ⟨q, hq, rfl⟩ := List.mem_map.1 hp
      have ek : kl = .string q.1 := (WideAt.sameKey_eq hpk).symm
      subst ek
      have hg := mem_fget (apart_of hs) hq
      rw [h.at_ q.1 q.2 z hg (hl _), fsD_at hg]
  subst e
  exact ho.mono hn
-- left out in this seat: copy_any
end Go.Proofs.YtlkimfmilccanaaGreat
