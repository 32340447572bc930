/-
  newFile, Write.
-/
import Derived.Test.YtlkimfmilccanaaGreatFWrite
namespace Go.Proofs.YtlkimfmilccanaaGreat
open Go.RowKit Go.Maps Go.WideMaps
theorem wpSkip {P : Program} {o : Oper} {a : Act} {w w' : World} {next : Act → World → Prop} {Q : Exit → Act → World → Prop} (h : (execOp a.eval o).run P w = .ok .skip w') (k : next (a.put o.dst undef) w') : Oper.wp P o a w next Q := by
  unfold Oper.wp; rw [h]; exact k
theorem run_mapUpdate_op {P : Program} {o : Oper} {f : Operand → Value} {w w' : World} (t : TypeId) (m x v : Operand) (ho : o.op = .mapUpdate t m x v) (h : (Instr.mapUpdate t (f m) (f x) (f v)).run P w = .ok () w') : (execOp f o).run P w = .ok .skip w' := by
  simp [execOp, ho, h, Result.andThen]
structure DStep (p m : Nat) (con : Key → FC) (A : AD) (w : World) (con' : Key → FC) (A' : AD) (w' : World) : Prop where
  at_ : DiskAt w' p m con' A'
  step : Step (foot p m con A.fs) (foot p m con' A'.fs) w w'
theorem DStep.refl {w : World} {p m : Nat} {con : Key → FC} {A : AD} (h : DiskAt w p m con A) : DStep p m con A w con A w := ⟨h, Step.refl _ _⟩
theorem DStep.trans {w w1 w2 : World} {p m : Nat} {con con1 con2 : Key → FC} {A A1 A2 : AD} (h : DStep p m con A w con1 A1 w1) (k : DStep p m con1 A1 w1 con2 A2 w2) : DStep p m con A w con2 A2 w2 := ⟨k.at_, h.step.trans k.step⟩
theorem DStep.below {w w' : World} {p m : Nat} {con : Key → FC} {A : AD} (h : DiskAt w p m con A) (b : Below w.heap.size w w') : DStep p m con A w con A w' :=
  ⟨h.same (fun x hx => b.block x (h.lt x hx)), Turn.of_below b _, fun _ x => .inl x⟩
theorem DStep.pow {w w' : World} {p m : Nat} {con : Key → FC} {A A' : AD} (h : DiskAt w' p m con A') (hf : A'.fs = A.fs) (t : Turn (fun b => b = p) w w') : DStep p m con A w con A' w' :=
  ⟨h, t.mono (fun _ hb => .inl hb), fun _ hb => .inl (hf ▸ hb)⟩
theorem DStep.file {w w' : World} {p m : Nat} {con : Key → FC} {A : AD} {k : Key} {F F' : AF} {c' : FC} (h : DiskAt w p m con A) (hk : fget A.fs k = some F) (hf : FileAt w' c' F') (s : FStep (con k) c' w w') (hsp : ((fused A.fs : Int) + F'.seen.length - F.seen.length) ≤ A.cap) :
    DStep p m con A w (upd con k c') { A with fs := fset A.fs k F' } w' := by
  obtain ⟨h1, h2⟩ := h.setFile hk hf s hsp
  exact ⟨h1, s.turn.mono (fun b hb => .inr (.inr ⟨k, F, hk, hb⟩)), h2⟩
/-- A file comes to the others. -/
theorem DStep.add {w w' : World} {p m : Nat} {con : Key → FC} {A : AD} {k : Key} {F' : AF} {c' : FC} {n : Nat} (h : DiskAt w p m con A) (hk : fget A.fs k = none) (hn : nameOk k = true) (hl : A.fs.length < 16) (hf : FileAt w' c' F') (t : Turn (fun b => b = m) w w') (ho : ∀ b, c'.has b → w.heap.size ≤ b)
    (hm : w'.ownsMap Tryz.prog 9 ptrElem m n ((fsD con A.fs).put (.string k) (.lit (.int .i64 (c'.g : Int))))) (hsp : ((fused A.fs : Int) + F'.seen.length) ≤ A.cap) :
    DStep p m con A w (upd con k c') { A with fs := fput A.fs k F' } w' := by
  have hfk : ∀ x G, fget (fput A.fs k F') x = some G → (x = k ∧ G = F') ∨ (x ≠ k ∧ fget A.fs x = some G) := fun x G hx => by
    by_cases e : x = k
    · subst e
      rw [fget_fput_same] at hx
      exact .inl ⟨rfl, by simpa using hx.symm⟩
    · rw [fget_fput_ne e] at hx
      exact .inr ⟨e, hx⟩
  have hpl := lt_of_some h.cells
  have hml := h.files.lt
  have hdk := fdel_of_none hk
  have hmem : ∀ q ∈ fput A.fs k F', q = (k, F') ∨ q ∈ A.fs := fun q hq => by
    unfold fput at hq
    rw [hdk] at hq
    exact mem_fins.1 hq
  refine ⟨⟨⟨h.ok.c0, h.ok.c1, fput_sorted h.ok.sorted, fun q hq => ?_, ?_, fun q hq => ?_, ?_, h.ok.pow⟩, ?_, ?_, fun x G hx => ?_, fun x G hx => ?_, fun x G y G' hx hy hxy b hb hb' => ?_⟩, t.mono (fun b hb => .inr (.inl hb)), fun b hb => ?_⟩
  · rcases hmem q hq with rfl | hq
    · exact hn
    · exact h.ok.names q hq
  · have := fput_length (fs := A.fs) (k := k) (F := F')
    show (fput A.fs k F').length ≤ 16
    omega
  · rcases hmem q hq with rfl | hq
    · exact hf.ok
    · exact h.ok.files q hq
  · show (fused (fput A.fs k F') : Int) ≤ A.cap
    unfold fput
    rw [fused_fins, hdk]
    simp only
    omega
  · rw [t.block p hpl h.pm]; exact h.cells
  · have e := fsD_put (con := con) (con' := upd con k c') (fs := A.fs) (k := k) (F := F') (fun q _ hq => by rw [upd_ne _ _ hq])
    rw [upd_same] at e
    rw [e] at hm
    refine ownsMap_exact hm ?_
    rw [fsD_size]
    have := fput_length (fs := A.fs) (k := k) (F := F')
    omega
  · rcases hfk x G hx with ⟨rfl, rfl⟩ | ⟨e, hx⟩
    · rw [upd_same]; exact hf
    · rw [upd_ne _ _ e]
      exact (h.file x G hx).turn t (fun b hb e' => (h.pf x G hx).2 (e' ▸ hb))
  · rcases hfk x G hx with ⟨rfl, rfl⟩ | ⟨e, hx⟩
    · rw [upd_same]
      exact ⟨fun y => by have := ho _ y; omega, fun y => by have := ho _ y; omega⟩
    · rw [upd_ne _ _ e]; exact h.pf x G hx
  · rcases hfk x G hx with ⟨ex, _⟩ | ⟨e, hx2⟩
    · rcases hfk y G' hy with ⟨e', _⟩ | ⟨e', hy2⟩
      · exact hxy (ex.trans e'.symm)
      · rw [ex, upd_same] at hb
        rw [upd_ne _ _ e'] at hb'
        have := ho b hb
        have := (h.file y G' hy2).lt b hb'
        omega
    · rw [upd_ne _ _ e] at hb
      rcases hfk y G' hy with ⟨ey, _⟩ | ⟨e', hy2⟩
      · rw [ey, upd_same] at hb'
        have := ho b hb'
        have := (h.file x G hx2).lt b hb
        omega
      · rw [upd_ne _ _ e'] at hb'
        exact h.apart x G y G' hx2 hy2 hxy b hb hb'
  · rcases hb with rfl | rfl | ⟨x, G, hx, hb⟩
    · exact .inl (.inl rfl)
    · exact .inl (.inr (.inl rfl))
    · rcases hfk x G hx with ⟨rfl, rfl⟩ | ⟨e, hx⟩
      · rw [upd_same] at hb
        exact .inr (ho b hb)
      · rw [upd_ne _ _ e] at hb
        exact .inl (.inr (.inr ⟨x, G, hx, hb⟩))
/-! ### newFile -/
def FC.fresh (w : World) : FC := ⟨w.heap.size + 1, w.heap.size, .slice none 0 0, .slice none 0 0⟩
theorem dirty_new : dirtyD AF.new = .map [] := rfl
theorem new_file (w : World) : FileAt ((w.alloc (.map #[] 0)).alloc (.cells #[.slice none 0 0, .slice none 0 0, .map (some w.heap.size)] 99)) (FC.fresh w) AF.new := by
  refine ⟨AF.Ok.new, ?_, Bytes.nil _ _, Bytes.nil _ _, ?_, by simp [FC.fresh, Value.ownBlock], by simp [FC.fresh, Value.ownBlock], by simp [FC.fresh, Value.ownBlock]⟩
  · have := heap_alloc_new (w.alloc (.map #[] 0)) (.cells #[.slice none 0 0, .slice none 0 0, .map (some w.heap.size)] 99)
    rw [size_alloc] at this
    exact this
  · rw [dirty_new]
    exact ((World.ownsMap_made w Tryz.prog 3 (unitElem (H := Unit))).mono (by omega)).alloc _
theorem fresh_has (w : World) (b : Nat) (h : (FC.fresh w).has b) : w.heap.size ≤ b := by
  rcases h with rfl | rfl | h | h
  · show w.heap.size ≤ w.heap.size + 1; omega
  · exact Nat.le_refl _
  · simp [FC.fresh, Value.ownBlock] at h
  · simp [FC.fresh, Value.ownBlock] at h
set_option maxHeartbeats 400000 in
theorem newFile_any (w : World) : Calls Tryz.prog 45 #[] w fun e w' => e = .returned (.pointer (some ⟨(FC.fresh w).g, 0, none⟩)) ∧ FileAt w' (FC.fresh w) AF.new ∧ Below w.heap.size w w' := by
  have hmm := @run_makeMap Tryz.prog
  have HN := hide (new_file w)
  have HB : Hid (Below w.heap.size w ((w.alloc (.map #[] 0)).alloc (.cells #[.slice none 0 0, .slice none 0 0, .map (some w.heap.size)] 99))) := ((Below.refl _ _).alloc (Nat.le_refl _) _).alloc (by simp) _
  go_enter Tryz.func45, Tryz.ntmps45
  go_wp2
  go_ret
  exact ⟨by simp [FC.fresh], HN.out, HB.out⟩
/-! ### Write -/
theorem fits_zero {A : AD} {k : Key} {a n : Int} (h : A.fits k a n = 0) : nameOk k = true ∧ 0 ≤ a ∧ a ≤ A.flen k ∧ max (A.flen k) (a + n) ≤ 1048576 ∧ (fget A.fs k = none → A.fs.length < 16) ∧ (fused A.fs : Int) - A.flen k + max (A.flen k) (a + n) ≤ A.cap := by
  unfold AD.fits at h
  by_cases h1 : nameOk k = false ∨ a < 0 ∨ a > A.flen k
  · rw [if_pos h1] at h; omega
  rw [if_neg h1] at h
  by_cases h2 : max (A.flen k) (a + n) > 1048576
  · rw [if_pos h2] at h; omega
  rw [if_neg h2] at h
  by_cases h3 : (fget A.fs k).isNone = true ∧ 16 ≤ A.fs.length
  · rw [if_pos h3] at h; omega
  rw [if_neg h3] at h
  by_cases h4 : (fused A.fs : Int) - A.flen k + max (A.flen k) (a + n) > A.cap
  · rw [if_pos h4] at h; omega
  refine ⟨?_, by omega, by omega, by omega, fun e => ?_, by omega⟩
  · cases hq : nameOk k with
    | true => rfl
    | false => exact absurd (.inl hq) h1
  · rw [e] at h3
    simp at h3
    exact h3
theorem write_off {A : AD} {k : Key} {a : Int} {t : List UInt8} (h : A.pow.off = true) : A.write k a t = (9, A) := by unfold AD.write; rw [if_pos h]
theorem write_unfit {A : AD} {k : Key} {a : Int} {t : List UInt8} (h : A.pow.off = false) (h1 : A.fits k a t.length ≠ 0) : A.write k a t = (A.fits k a t.length, A) := by unfold AD.write; rw [if_neg (by rw [h]; simp), if_pos h1]
theorem write_count {A : AD} {k : Key} {a : Int} {t : List UInt8} (h : A.pow.off = false) (h1 : A.fits k a t.length = 0) (h2 : (A.pow.count 1).1 ≠ 0) : A.write k a t = ((A.pow.count 1).1, { A with pow := (A.pow.count 1).2 }) := by unfold AD.write; rw [if_neg (by rw [h]; simp), if_neg (by omega), if_pos h2]
theorem write_some {A : AD} {k : Key} {a : Int} {t : List UInt8} {F : AF} (h : A.pow.off = false) (h1 : A.fits k a t.length = 0) (h2 : (A.pow.count 1).1 = 0) (hk : fget A.fs k = some F) : A.write k a t = (0, ⟨A.cap, fset A.fs k (F.write a.toNat t), (A.pow.count 1).2⟩) := by unfold AD.write; rw [if_neg (by rw [h]; simp), if_neg (by omega), if_neg (by omega), hk]
theorem write_none {A : AD} {k : Key} {a : Int} {t : List UInt8} (h : A.pow.off = false) (h1 : A.fits k a t.length = 0) (h2 : (A.pow.count 1).1 = 0) (hk : fget A.fs k = none) : A.write k a t = (0, ⟨A.cap, fput A.fs k (AF.new.write a.toNat t), (A.pow.count 1).2⟩) := by unfold AD.write; rw [if_neg (by rw [h]; simp), if_neg (by omega), if_neg (by omega), hk]
set_option maxRecDepth 5000 in
set_option maxHeartbeats 1000000 in
theorem write_any (p m : Nat) (con : Key → FC) (A : AD) (w : World) (h : DiskAt w p m con A) (s : ByteArray) (hs : s.size ≤ maxLen) (a : Int) (ha : -9223372036854775808 ≤ a ∧ a < 9223372036854775808) (t : ByteArray) (ht : t.size ≤ 140737488355328) :
    Calls Tryz.prog 18 #[.pointer (some ⟨p, 0, none⟩), .string s, .int .i64 a, .string t] w fun e w' => e = .returned (.int .i64 (A.write s.data.toList a t.data.toList).1) ∧ ∃ con', DStep p m con A w con' (A.write s.data.toList a t.data.toList).2 w' := by
  have HH := hide h
  have c2 := h.c2
  clear h
  cases hoff : A.pow.off with
  | true =>
    rw [hoff] at c2
    have HE := hide (write_off (k := s.data.toList) (a := a) (t := t.data.toList) hoff)
    go_enter Tryz.func18, Tryz.ntmps18
    go_wp2
    go_ret
    rw [HE.out]
    exact ⟨rfl, con, DStep.refl HH.out⟩
  | false =>
    rw [hoff] at c2
    have HOF := hide hoff
    clear hoff
    go_enter Tryz.func18, Tryz.ntmps18
    go_wp2_with fail
    refine (fits_any p m con A _ HH.out s hs a (t.size : Int) ha (by omega)).mono ?_
    rintro e w1 ⟨rfl, hb1⟩
    have S1 := DStep.below HH.out hb1
    have ZL : Hid (t.data.toList.length = t.size) := str_len t
    by_cases hz : A.fits s.data.toList a (t.size : Int) = 0
    · rw [hz]
      have HZ := hide hz
      clear hz c2
      go_wp2_with fail
      refine (count_any p m con A _ S1.at_ 1).mono ?_
      rintro e w2 ⟨rfl, hD2, hT2⟩
      have S2 : DStep p m con A w con { A with pow := (A.pow.count 1).2 } w2 := S1.trans (DStep.pow hD2 rfl hT2)
      by_cases hc : (A.pow.count 1).1 = 0
      · rw [hc]
        have HC := hide hc
        clear hc
        have hfz := fits_zero HZ.out
        have c1 := hD2.c1
        cases hk : fget A.fs s.data.toList with
        | some F =>
          have hl := (look_some hD2 s hs hk).2
          have hf := hD2.file _ F hk
          have hfl : A.flen s.data.toList = (F.seen.length : Int) := flen_some hk
          obtain ⟨an, han⟩ : ∃ an : Nat, a = (an : Int) := ⟨a.toNat, by omega⟩
          subst han
          have HE := hide (write_some (t := t.data.toList) HOF.out (by rw [ZL.out]; exact HZ.out) HC.out hk)
          have hcall := fwrite_any w2 (con s.data.toList) F hf an t (by omega) (by omega)
          have HFZ := hide hfz
          have HK := hide hk
          have HFL := hide hfl
          clear hfz hk hf hfl
          go_wp2_with fail
          refine hcall.mono ?_
          rintro e w3 ⟨rfl, c', hf3, hs3⟩
          have hw := AF.write_seen (F := F) (a := an) (t := t.data.toList) (by have := HFZ.out; have := HFL.out; omega)
          have S3 := S2.trans (DStep.file hD2 HK.out hf3 hs3 (by have := HFZ.out; have := HFL.out; have := ZL.out; simp only; rw [hw]; omega))
          clear hw
          go_wp2
          go_ret
          rw [HE.out, Int.toNat_natCast]
          exact ⟨rfl, _, S3⟩
        | none =>
          have hl := (look_none hD2 s hs hk).2
          have hfl : A.flen s.data.toList = 0 := flen_none hk
          have ha0 : a = 0 := by omega
          subst ha0
          have HE := hide (write_none (t := t.data.toList) HOF.out (by rw [ZL.out]; exact HZ.out) HC.out hk)
          have HFZ := hide hfz
          have HK := hide hk
          have HFL := hide hfl
          clear hfz hk hfl
          go_wp2_with fail
          refine (newFile_any w2).mono ?_
          rintro e w3 ⟨rfl, hf3, hb3⟩
          have c1' : w3.cell? ⟨p, 1, none⟩ = some (.map (some m)) := by rw [World.cell?_of_block (hb3.block p (lt_of_some hD2.cells))]; exact c1
          obtain ⟨c, hc⟩ : ∃ c, FC.fresh w2 = c := ⟨_, rfl⟩
          rw [hc] at hf3
          have HO2 : Hid (∀ b, c.has b → w2.heap.size ≤ b) := by rw [← hc]; exact fresh_has w2
          rw [hc]
          clear hc c1 hl
          go_wp2
          refine wp_region_noPanic ?_
          refine wp_region_held_drew (S := fun wx => wx.cell? ⟨p, 1, none⟩ = some (.map (some m))) (by kernel_rfl) c1' (fun hHeld => ?_)
          refine tK 0 (some 42) (.pointer (some ⟨p, 0, none⟩)) rfl hHeld ?_
          simp only [Act.put, pA, pB, pC]
          refine tK 1 (some 43) (.pointer (some ⟨p, 0, none⟩)) rfl hHeld ?_
          simp only [Act.put, pA, pB, pC]
          refine tK 2 (some 44) (.pointer (some ⟨p, 1, none⟩)) rfl hHeld ?_
          simp only [Act.put, pA, pB, pC]
          refine tH 3 (some 45) (.map (some m)) rfl (fun w hw => by have hw' : w.cell? ⟨p, 1, none⟩ = some (.map (some m)) := hw; first | (go_simp; done) | (go_simp; rfl)) hHeld ?_
          simp only [Act.put, pA, pB, pC]
          refine tK 4 (some 46) (.string s) rfl hHeld ?_
          simp only [Act.put, pA, pB, pC]
          refine tK 6 (some 48) (.pointer (some ⟨c.g, 0, none⟩)) rfl hHeld ?_
          simp only [Act.put, pA, pB, pC]
          refine rdH 5 rfl (fun K hK => ?_)
          go_simp
          refine (clone_any s w3.drew (by have := HFZ.out.1; simp [nameOk] at this; rw [← Array.length_toList] at *; have h5 := str_len s; omega)).mono ?_
          rintro e w4 ⟨rfl, hb4⟩
          try go_wp2_with fail
          have hb4' := below_drew hb4
          have hD4 : DiskAt w4 p m con { A with pow := (A.pow.count 1).2 } := hD2.same (fun b hb => by rw [hb4'.block b (by have := hb3.size; have := hD2.lt b hb; omega), hb3.block b (hD2.lt b hb)])
          obtain ⟨w5, hrun5, hown5, hg5⟩ := hD4.files.update law9 Tryz.underlying82 (by unfold maxLen; omega) (keyOf_string_mk Tryz.underlying9 hs) (ptrElem_some c.g)
          have hcell4 : w4.cell? ⟨p, 1, none⟩ = some (.map (some m)) := hD4.c1
          have hcell5 : w5.cell? ⟨p, 1, none⟩ = some (.map (some m)) := by rw [World.cell?_of_block (hg5.block p (lt_of_some hD4.cells) (fun e => hD4.pm (by simpa using e)))]; exact hcell4
          have hf4 := hf3.turn (Turn.of_below hb4' (fun _ => False)) (fun _ _ x => x)
          have hm2 := hD2.files.lt
          have hf5 := hf4.turn (Turn.of_grown hg5) (fun b hb e => by have h1 := HO2.out b hb; have h2 : m = b := by simpa using e
                                                                     omega)
          refine hK.out _ _ hcell4 (fun hHeld => ?_)
          clear hK K
          refine rdH 7 rfl (fun K hK => ?_)
          refine wpSkip (run_mapUpdate_op _ _ _ _ rfl hrun5) ?_
          refine hK.out _ _ hcell5 (fun hHeld => ?_)
          clear hK K
          refine ⟨by kernel_rfl, ?_⟩
          refine NoPanic.normal ?_
          have T25 : Turn (fun b => b = m) w2 w5 := ((Turn.of_below hb3 (fun b => b = m)).trans (Turn.of_below hb4' (fun b => b = m)) (fun _ hb => .inl hb)).trans (Turn.of_grown hg5) (fun b hb => .inl (by simpa using hb.symm))
          have HF5 := hide hf5
          have HO5 := hide hown5
          have HT5 := hide T25
          have HD2 := hide hD2
          clear hf5 hown5 T25 hD2 hf4 hf3 hD4 hHeld hcell4 hcell5 hrun5 hg5 hb4 hb4' hb3
          go_wp2_with fail
          refine (fwrite_any w5 c AF.new HF5.out 0 t (Nat.zero_le _) (by have := HFZ.out; have := HFL.out; omega)).mono ?_
          rintro e w6 ⟨rfl, c6, hf6, hs6⟩
          have hT6 : Turn (fun b => b = m) w2 w6 := HT5.out.trans hs6.turn (fun b hb => .inr (HO2.out b hb))
          have hm6 : w6.heap[m]? = w5.heap[m]? := hs6.turn.block m HO5.out.lt (fun x => by have := HO2.out m x; omega)
          have hw := AF.write_seen (F := AF.new) (a := 0) (t := t.data.toList) (Nat.zero_le _)
          have ho6 := ownsMap_same HO5.out hm6
          rw [← hs6.g] at ho6
          have S3 := S2.trans (DStep.add HD2.out HK.out HFZ.out.1 (HFZ.out.2.2.2.2.1 HK.out) hf6 hT6 (fun b hb => by
            rcases hs6.own b hb with x | x
            · exact HO2.out b x
            · exact Nat.le_trans HT5.out.size x) ho6 (by have := HFZ.out; have := HFL.out; have := ZL.out; simp only; rw [hw]; simp only [AF.new, List.length_nil]; omega))
          clear hw ho6 hm6 hT6 hf6
          go_wp2
          go_ret
          rw [HE.out]
          exact ⟨rfl, _, S3⟩
      · obtain ⟨E, hE⟩ : ∃ E, (A.pow.count 1).1 = E := ⟨_, rfl⟩
        have HE := hide (write_count (t := t.data.toList) HOF.out (by rw [ZL.out]; exact HZ.out) hc)
        rw [hE] at hc HE ⊢
        have hcb : (E != 0) = true := by rw [bne_iff_ne]; exact hc
        clear hc hE
        go_wp2
        go_ret
        rw [HE.out]
        exact ⟨rfl, con, S2⟩
    · have HE := hide (write_unfit (t := t.data.toList) HOF.out (by rw [ZL.out]; exact hz))
      rw [ZL.out] at HE
      obtain ⟨E, hE⟩ : ∃ E, A.fits s.data.toList a (t.size : Int) = E := ⟨_, rfl⟩
      rw [hE] at hz HE ⊢
      have hcb : (E != 0) = true := by rw [bne_iff_ne]; exact hz
      clear hz hE c2
      go_wp2
      go_ret
      rw [HE.out]
      exact ⟨rfl, con, S1⟩
end Go.Proofs.YtlkimfmilccanaaGreat
