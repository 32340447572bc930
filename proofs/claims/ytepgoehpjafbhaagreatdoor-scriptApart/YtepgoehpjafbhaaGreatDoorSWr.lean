/-
  script's writer: a text that grows.
-/
import Derived.Test.YtepgoehpjafbhaaGreatDoorSPa
import Derived.Test.YtepgoehpjafbhaaGreatDoorCurBase
import Derived.Shelf.Strings.Builder1
namespace Go.Proofs.YtepgoehpjafbhaaGreatDoor
open Go.RowKit S
set_option linter.unusedVariables false
set_option linter.unusedSimpArgs false
def wtv (p v : Value) (lg : Bool) : Nat → Value := fun i => if i = 0 then p else if i = 1 then v else .bool lg
theorem sizeBld : (Tryz.prog.info? 87).map (·.size) = some 2 := by kernel_rfl
set_option maxRecDepth 100000 in
theorem copy_used (b : Nat) (v : Value) (lg : Bool) (w : World) (h : Has w b 89 (wtv (.pointer (some ⟨b, 0, none⟩)) v lg) 3) :
    Calls Tryz.prog 64 #[.pointer (some ⟨b, 0, none⟩)] w fun e w' => e = .returned (.tuple #[]) ∧ w' = w := by
  have c0 : w.cell? ⟨b, 0, none⟩ = some (.pointer (some ⟨b, 0, none⟩)) := h.cell 0 (by omega)
  have hne : (binOp BinOp.neq 85 (.pointer (some ⟨b, 0, none⟩)) (.pointer (some ⟨b, 0, none⟩))).run Tryz.prog w = .ok (.bool false) w := by
    obtain ⟨j, hj, _⟩ := Option.map_eq_some_iff.1 sizeBld
    exact Lib.run_neq_ptr_same w _ Tryz.underlying85 hj
  go_enter Tryz.func64, Tryz.ntmps64
  go_wp2
  go_end0
  exact ⟨rfl, rfl⟩
theorem shape_of {w : World} {b : Nat} {t : TypeId} {f : Nat → Value} {m : Nat} (h : Has w b t f m) : w.shape? b = some (t, m) := by
  unfold Has at h
  simp [World.shape?, h, tabv_size]
theorem liesBld : liesAt Tryz.prog Tryz.prog.depth 89 (3 / Tryz.prog.cellsOf 89) 0 87 1 = true := by kernel_rfl
set_option maxRecDepth 100000 in
theorem copy_fresh (b : Nat) (v : Value) (lg : Bool) (w : World) (h : Has w b 89 (wtv (.pointer none) v lg) 3) :
    Calls Tryz.prog 64 #[.pointer (some ⟨b, 0, none⟩)] w fun e w' => e = .returned (.tuple #[]) ∧ w' = w.setCell ⟨b, 0, none⟩ (.pointer (some ⟨b, 0, none⟩)) := by
  have c0 : w.cell? ⟨b, 0, none⟩ = some (.pointer none) := h.cell 0 (by omega)
  have f0 := h.frozen 0
  have hsh := shape_of h
  obtain ⟨j, hj, hjs⟩ := Option.map_eq_some_iff.1 sizeBld
  have hu1 : (convert 85 145 (.pointer (some ⟨b, 0, none⟩))).run Tryz.prog w = .ok (.pointer (some ⟨b, 0, none⟩)) w := Lib.run_to_unsafe w ⟨b, 0, none⟩ Tryz.underlying85 Tryz.underlying145 hj (by rw [hjs]; decide) hsh (Nat.zero_lt_succ 2)
  have hu2 : (convert 145 85 (.pointer (some ⟨b, 0, none⟩))).run Tryz.prog w = .ok (.pointer (some ⟨b, 0, none⟩)) w := Lib.run_from_unsafe w ⟨b, 0, none⟩ Tryz.underlying145 Tryz.underlying85 hj hsh liesBld
  have hu3 : (callFunc 70 #[.pointer (some ⟨b, 0, none⟩)]).run Tryz.prog w = .ok (.value (.pointer (some ⟨b, 0, none⟩))) w := by
    rw [run_callFunc_extern Tryz.func70 (by kernel_rfl) (by kernel_rfl) (by kernel_rfl) (e := Extern.AbiNoEscape.same) (by kernel_rfl), Lib.run_noEscape]
    rfl
  clear hsh hj hjs
  go_enter Tryz.func64, Tryz.ntmps64
  go_wp2
  go_end0
  exact ⟨rfl, rfl⟩
def okp (b : Nat) (p : Value) : Prop := p = .pointer none ∨ p = .pointer (some ⟨b, 0, none⟩)
/-- A writer in block b: its text's bytes behind v, from block N on; is it long? -/
def Wr (w : World) (b N : Nat) (v : Value) (t : List UInt8) (lg : Bool) : Prop := b < N ∧ N ≤ w.heap.size ∧ Cu.Bytes w N v t ∧ ∃ p, okp b p ∧ Has w b 89 (wtv p v lg) 3
/-- Only block b, v's own block and new ones have turned. -/
structure Mw (b : Nat) (w : World) (v : Value) (w' : World) (v' : Value) : Prop where
  os : w'.os = w.os
  tape : w'.tape = w.tape
  output : w'.output = w.output
  size : w.heap.size ≤ w'.heap.size
  block : ∀ k, k < w.heap.size → k ≠ b → v.ownBlock ≠ some k → w'.heap[k]? = w.heap[k]?
  own : ∀ g, v'.ownBlock = some g → v.ownBlock = some g ∨ w.heap.size ≤ g
theorem Mw.refl (b : Nat) (w : World) (v : Value) : Mw b w v w v := ⟨rfl, rfl, rfl, Nat.le_refl _, fun _ _ _ _ => rfl, fun _ h => .inl h⟩
theorem Mw.trans {b : Nat} {w w1 w2 : World} {v v1 v2 : Value} (h : Mw b w v w1 v1) (k : Mw b w1 v1 w2 v2) : Mw b w v w2 v2 := by
  refine ⟨k.os.trans h.os, k.tape.trans h.tape, k.output.trans h.output, Nat.le_trans h.size k.size, fun i hi hb hn => ?_, fun g hg => ?_⟩
  · refine (k.block i (Nat.lt_of_lt_of_le hi h.size) hb (fun e => ?_)).trans (h.block i hi hb hn)
    rcases h.own i e with h1 | h1
    · exact hn h1
    · omega
  · have := h.size
    rcases k.own g hg with h1 | h1
    · exact h.own g h1
    · exact .inr (by omega)
theorem Mw.set (b : Nat) (w : World) (v : Value) (i : Nat) (x : Value) : Mw b w v (w.setCell ⟨b, i, none⟩ x) v :=
  ⟨rfl, rfl, rfl, by simp [World.setCell], fun k hk hb _ => heap_setCell_other w _ k x (show k ≠ b from hb), fun _ h => .inl h⟩
theorem Mw.of {b : Nat} {w w' : World} {v : Value} (h : Below w.heap.size w w') : Mw b w v w' v := ⟨h.os, h.tape, h.output, h.size, fun k hk _ _ => h.block k hk, fun _ h => .inl h⟩
theorem Mw.has {b g m : Nat} {w w' : World} {v v' : Value} {t : TypeId} {f : Nat → Value} (h : Mw b w v w' v') (k : Has w g t f m) (hb : g ≠ b) (hv : v.ownBlock ≠ some g) : Has w' g t f m := by
  have hl := k.lt
  unfold Has at k ⊢
  rw [h.block g hl hb hv]
  exact k
theorem Wr.below {w w' : World} {b N : Nat} {v : Value} {t : List UInt8} {lg : Bool} (h : Wr w b N v t lg) (k : Below w.heap.size w w') : Wr w' b N v t lg := by
  obtain ⟨h1, h2, h3, p, h4, h5⟩ := h
  exact ⟨h1, Nat.le_trans h2 k.size, World.ownsRow.kept h3 ⟨k.os, k.tape, k.output, k.size, fun i hi _ => k.block i hi⟩ (row := none) (by cases v.ownBlock <;> simp), p, h4, h5.below k h5.lt⟩
theorem bytes_len {w : World} {N : Nat} {v : Value} {t : List UInt8} (h : Cu.Bytes w N v t) : ∃ ad cap, v = .slice ad t.length cap := by
  rcases h.2 with ⟨h1, h2⟩ | ⟨g, cap, cur, h1, _⟩
  · exact ⟨none, 0, by rw [h1, h2]⟩
  · exact ⟨_, _, h1⟩
set_option maxRecDepth 100000 in
theorem len_any (b N : Nat) (v : Value) (t : List UInt8) (lg : Bool) (w : World) (h : Wr w b N v t lg) :
    Calls Tryz.prog 63 #[.pointer (some ⟨b, 0, none⟩)] w fun e w' => e = .returned (.int .i64 (t.length : Nat)) ∧ w' = w := by
  obtain ⟨h1, h2, h3, p, h4, h5⟩ := h
  obtain ⟨ad, cap, rfl⟩ := bytes_len h3
  have c1 : w.cell? ⟨b, 1, none⟩ = some (.slice ad t.length cap) := h5.cell 1 (by omega)
  go_enter Tryz.func63, Tryz.ntmps63
  go_wp2
  go_ret
  exact ⟨rfl, rfl⟩
set_option maxRecDepth 100000 in
set_option maxHeartbeats 800000 in
theorem writeStr_any (b N : Nat) (v : Value) (t s : List UInt8) (lg : Bool) (w : World) (h : Wr w b N v t lg) (hl : t.length + s.length ≤ 100000) :
    Calls Tryz.prog 55 #[.pointer (some ⟨b, 0, none⟩), .string (bs s)] w fun e w' => (∃ x y, e = .returned (.tuple #[x, y])) ∧ ∃ v', Wr w' b N v' (t ++ s) lg ∧ Mw b w v w' v' := by
  obtain ⟨h1, h2, h3, p, h4, h5⟩ := h
  -- behind copyCheck
  obtain ⟨w1, hcc, hB1, hH1, hM1⟩ : ∃ w1, Calls Tryz.prog 64 #[.pointer (some ⟨b, 0, none⟩)] w (fun e w' => e = .returned (.tuple #[]) ∧ w' = w1) ∧ Cu.Bytes w1 N v t ∧ Has w1 b 89 (wtv (.pointer (some ⟨b, 0, none⟩)) v lg) 3 ∧ Mw b w v w1 v := by
    rcases h4 with rfl | rfl
    · refine ⟨_, copy_fresh b v lg w h5, ?_, (h5.set 0 _).congr _ fun i hi => ?_, Mw.set _ _ _ _ _⟩
      · exact World.ownsRow.kept h3 ⟨rfl, rfl, rfl, by simp [World.setCell], fun k hk hn => heap_setCell_other w _ k _ (show k ≠ b from fun e => hn (by rw [e]))⟩ (row := some b) (by
          cases hv : v.ownBlock with
          | none => exact .inl rfl
          | some k => exact .inr (fun e => by injection e with e; have := (World.ownsRow.lt h3 k hv).1; omega))
      · unfold upd wtv
        by_cases e : i = 0
        · rw [if_pos e, if_pos e]
        · rw [if_neg e, if_neg e, if_neg e]
    · exact ⟨w, copy_used b v lg w h5, h3, h5, Mw.refl _ _ _⟩
  have hs1 := hM1.size
  have hsrc : Src Tryz.prog 1 9 (.string (bs s)) s.length (s.map Cu.byteV) w1 := by
    have := Src.ofString (P := Tryz.prog) w1 Tryz.underlying9 (bs s)
    rw [bs_size] at this
    exact this
  obtain ⟨v2, w2, e2, hB2, hMv⟩ := Cu.run_append_bytes w1 N 24 9 v t s hB1 (.string (bs s)) hsrc (by omega) (by omega)
  obtain ⟨ad, cap, rfl⟩ := bytes_len hB1
  obtain ⟨ad2, cap2, rfl⟩ := bytes_len hB2
  have hvb : Value.ownBlock (.slice ad t.length cap) ≠ some b := fun e => by have := (World.ownsRow.lt hB1 b e).1; omega
  have hbl := hH1.lt
  have hH2 : Has w2 b 89 (wtv (.pointer (some ⟨b, 0, none⟩)) (.slice ad t.length cap) lg) 3 := by
    have := hH1
    unfold Has at this ⊢
    rw [hMv.gr.block b hbl (fun e => hvb e.symm)]
    exact this
  have c1 : w1.cell? ⟨b, 1, none⟩ = some (.slice ad t.length cap) := hH1.cell 1 (by omega)
  have c2 : w2.cell? ⟨b, 1, none⟩ = some (.slice ad t.length cap) := hH2.cell 1 (by omega)
  have f2 := hH2.frozen 1
  have hv2b : Value.ownBlock (.slice ad2 (t ++ s).length cap2) ≠ some b := fun e => by have := (World.ownsRow.lt hB2 b e).1; omega
  have HM2 : Hid (Mw b w (.slice ad t.length cap) (w2.setCell ⟨b, 1, none⟩ (.slice ad2 (t ++ s).length cap2)) (.slice ad2 (t ++ s).length cap2)) := hide ((hM1.trans ⟨hMv.gr.os, hMv.gr.tape, hMv.gr.output, hMv.gr.size, fun k hk _ hn => hMv.gr.block k hk (fun e => hn e.symm), hMv.own⟩).trans (Mw.set _ _ _ _ _))
  have HW2 : Hid (Wr (w2.setCell ⟨b, 1, none⟩ (.slice ad2 (t ++ s).length cap2)) b N (.slice ad2 (t ++ s).length cap2) (t ++ s) lg) := hide (by
    refine ⟨h1, by have := HM2.out.size; omega, ?_, _, .inr rfl, (hH2.set 1 _).congr _ fun i hi => ?_⟩
    · exact World.ownsRow.kept hB2 ⟨rfl, rfl, rfl, by simp [World.setCell], fun k hk hn => heap_setCell_other w2 _ k _ (show k ≠ b from fun e => hn (by rw [e]))⟩ (row := some b) (.inr hv2b)
    · unfold upd wtv
      by_cases e : i = 1
      · subst e; rfl
      · rw [if_neg e, if_neg e]
        by_cases e0 : i = 0
        · rw [if_pos e0, if_pos e0]
        · rw [if_neg e0, if_neg e0, if_neg e])
  have hz := bs_size s
  clear hM1 hMv hH1 hH2 hB1 hB2 hsrc h3 h5
  generalize (t ++ s).length = LL at e2 HM2 HW2
  go_enter Tryz.func55, Tryz.ntmps55
  go_wp2_with fail
  refine hcc.mono ?_
  rintro e w1' ⟨rfl, rfl⟩
  go_wp2_with (at_builtin; refine wpList_app rfl _ _ _ rfl e2 ?_)
  go_ret2
  exact ⟨⟨_, _, rfl⟩, _, HW2.out, HM2.out⟩
end Go.Proofs.YtepgoehpjafbhaaGreatDoor
