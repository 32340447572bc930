/-
  Reset (printed by gen_reset.py).
-/
import Derived.Test.YtdffmmiegpndkaaGreatDoorWApp
namespace Go.Proofs.YtdffmmiegpndkaaGreatDoor
open Go.RowKit Go.Maps
set_option linter.unusedVariables false
set_option linter.unusedSimpArgs false
def belowA (s : ASeg) (n : Int) : Bool := s.size == 0 || decide (s.fin ≤ n)
def resetL (nm : Key) (n : Int) : AD → List ASeg → Int × AD × List ASeg × Bool
  | A, [] => (0, A, [], false)
  | A, s :: r => if belowA s n = true then (if (A.remove (fileL nm s.num)).1 ≠ 0 then ((A.remove (fileL nm s.num)).1, (A.remove (fileL nm s.num)).2, s :: r, true) else resetL nm n (A.remove (fileL nm s.num)).2 r) else (0, A, s :: r, false)
def resetA (A : AD) (g : AL) (n : Int) : Int × AD × AL :=
  if g.dead = true then (60, A, g)
  else if n < 0 ∨ g.next < n then (1, A, g)
  else
    let r := resetL g.name.data.toList n A g.segs
    (r.1, r.2.1, { g with segs := r.2.2.1, dead := r.2.2.2 })
theorem allBelow_any (s : ASeg) (n : Int) (w : World) : Calls Tryz.prog 38 #[.agg #[.int .i64 s.num, .int .i64 s.size, .int .i64 s.fin], .int .i64 n] w fun e w' => e = .returned (.bool (belowA s n)) ∧ Below w.heap.size w w' := by
  unfold belowA
  by_cases h0 : s.size = 0
  · have k0 : (s.size == 0) = true := by simpa using h0
    rw [k0, Bool.true_or]
    clear h0
    go_enter Tryz.func38, Tryz.ntmps38
    go_wp2
    go_ret
    exact ⟨rfl, by first | exact Below.refl _ _ | exact (Below.refl _ _).alloc (Nat.le_refl _) _⟩
  · have k0 : (s.size == 0) = false := by simpa using h0
    rw [k0, Bool.false_or]
    clear h0
    go_enter Tryz.func38, Tryz.ntmps38
    go_wp2
    go_ret
    exact ⟨rfl, by first | exact Below.refl _ _ | exact (Below.refl _ _).alloc (Nat.le_refl _) _⟩
def lenAt (l : Nat) (w : World) : Nat := match w.cell? ⟨l, 3, none⟩ with
  | some (.slice _ n _) => n
  | _ => 0
theorem lenAt_set {w : World} {l n cap : Nat} {ad : Option Addr} {v : Value} (h : (w.cell? ⟨l, 3, none⟩).isSome = true) (hv : v = .slice ad n cap := by rfl) : lenAt l (w.setCell ⟨l, 3, none⟩ v) = n := by
  unfold lenAt; rw [World.cell?_setCell_same' _ _ _ h, hv]
theorem SegRow.tail {w : World} {b off n cap : Nat} {s : ASeg} {gs : List ASeg} {r : Option Nat} (h : SegRow w (.slice (some ⟨b, off, none⟩) (n + 1) (cap + 1)) (s :: gs) r) : SegRow w (.slice (if cap = 0 then some ⟨b, off, none⟩ else some ⟨b, off + 3, none⟩) n cap) gs r := by
  obtain ⟨ad, cp, hv, hle, h1⟩ := h
  cases hv
  rcases h1 with ⟨e1, _⟩ | ⟨b', off', e1, e2, hbl, hcs, hsm, hfz⟩
  · cases e1
  cases e1
  simp only [List.length_cons] at hle
  by_cases h0 : cap = 0
  · rw [if_pos h0]
    exact ⟨_, cap, rfl, by omega, .inr ⟨b, off, rfl, e2, hbl, fun q hq => by omega, fun q hq => by omega, hfz⟩⟩
  rw [if_neg h0]
  refine ⟨_, cap, rfl, by omega, .inr ⟨b, off + 3, rfl, e2, hbl, fun q hq => ?_, fun q hq => ?_, hfz⟩⟩
  · rw [show off + 3 + q = off + (3 + q) by omega, hcs (3 + q) (by simp only [List.length_cons]; omega)]
    show (s.cs ++ cellsG gs)[3 + q]? = _
    rw [List.getElem?_append_right (by show 3 ≤ _; omega)]
    congr 1
    show 3 + q - 3 = q
    omega
  · rw [show off + 3 + q = off + (3 + q) by omega]; exact hsm (3 + q) (by omega)
section
variable {B : Nat} {w : World} {L : List Item} {i j l p : Nat} {A : AD} {g : AL}
set_option maxRecDepth 100000 in
set_option maxHeartbeats 4000000 in
theorem reset_any (h : Lies B w L) (hi : L[i]? = some (.disk p A)) (hj : L[j]? = some (.log l p g)) (hij : i ≠ j) (he : Env B w) (hg : g.Fit) (n : Int) (hn : -9223372036854775808 ≤ n ∧ n ≤ 9223372036854775807) (R : Int × AD × AL) (hR : resetA A g n = R) :
    Calls Tryz.prog 22 #[.pointer (some ⟨l, 0, none⟩), .int .i64 n] w fun e w' => e = .returned (.int .i64 R.1) ∧ Lies B w' ((L.set i (.disk p R.2.1)).set j (.log l p R.2.2)) ∧ Below B w w' := by
  obtain ⟨v0, r0, hat0, hBl⟩ := h.logAt hj
  have c5 := hat0.c5
  have c4 := hat0.c4
  have hK : Lies B w ((L.set i (.disk p A)).set j (.log l p g)) := by rw [hset_keep hi, hset_keep hj]; exact h
  have HL := hide hK
  cases hd : g.dead with
  | true =>
    have hRR : R = (60, A, g) := by rw [← hR]; unfold resetA; rw [if_pos hd]
    rw [hd] at c5
    clear h hat0 hR hd hK
    go_enter Tryz.func22, Tryz.ntmps22
    go_wp2
    go_ret
    try rw [hRR]
    exact ⟨rfl, HL.out, Below.refl _ _⟩
  | false =>
    rw [hd] at c5
    by_cases hbad : n < 0 ∨ g.next < n
    · have hRR : R = (1, A, g) := by rw [← hR]; unfold resetA; rw [if_neg (by rw [hd]; decide), if_pos hbad]
      clear h hat0 hR hd hK
      by_cases hb1 : n < 0
      · have k1 : decide (n < 0) = true := decide_eq_true hb1
        clear hbad
        go_enter Tryz.func22, Tryz.ntmps22
        go_wp2
        go_ret
        try rw [hRR]
        exact ⟨rfl, HL.out, Below.refl _ _⟩
      · have k1 : decide (n < 0) = false := decide_eq_false hb1
        have k2 : decide (g.next < n) = true := decide_eq_true (hbad.resolve_left hb1)
        clear hbad
        go_enter Tryz.func22, Tryz.ntmps22
        go_wp2
        go_ret
        try rw [hRR]
        exact ⟨rfl, HL.out, Below.refl _ _⟩
    · have k1 : decide (n < 0) = false := decide_eq_false (fun hc => hbad (.inl hc))
      have k2 : decide (g.next < n) = false := decide_eq_false (fun hc => hbad (.inr hc))
      obtain ⟨RL, hRL⟩ : ∃ x, resetL g.name.data.toList n A g.segs = x := ⟨_, rfl⟩
      have hRR : R = (RL.1, RL.2.1, { g with segs := RL.2.2.1, dead := RL.2.2.2 }) := by
        rw [← hR]; unfold resetA; rw [if_neg (by rw [hd]; decide), if_neg hbad]; simp only; rw [hRL]
      have HRR := hide hRR
      have HRL := hide hRL
      have HD := hide hd
      have HI := hide hi
      have HJ := hide hj
      have HIJ := hide hij
      have HENV := hide he
      have HG := hide hg
      clear h hat0 hR hd hK hbad hRL hRR hi hj hij he hg
      go_enter Tryz.func22, Tryz.ntmps22
      go_wp2
      go_loopw [5] (fun x wr => ∃ (gs : List ASeg) (Ak : AD), (∀ s ∈ gs, s ∈ g.segs) ∧ resetL g.name.data.toList n Ak gs = RL ∧ Lies B wr ((L.set i (.disk p Ak)).set j (.log l p { g with segs := gs })) ∧ Below B w wr) (fun x wr => lenAt l wr)
      case atStart => exact ⟨g.segs, A, fun s h => h, HRL.out, HL.out, Below.refl _ _⟩
      case round =>
        obtain ⟨gs, Ak, hin, hq, hLr, hbr⟩ := hrel
        have hil := (List.getElem?_eq_some_iff.1 HI.out).1
        have hjl := (List.getElem?_eq_some_iff.1 HJ.out).1
        have hjr : ((L.set i (.disk p Ak)).set j (.log l p { g with segs := gs }))[j]? = some (.log l p { g with segs := gs }) := List.getElem?_set_self (by rw [List.length_set]; exact hjl)
        have hir : ((L.set i (.disk p Ak)).set j (.log l p { g with segs := gs }))[i]? = some (.disk p Ak) := by rw [List.getElem?_set_ne (fun e => HIJ.out e.symm)]; exact List.getElem?_set_self hil
        obtain ⟨v, hp⟩ := hLr.pin hjr
        obtain ⟨LP, hLP⟩ : ∃ x, ((L.set i (.disk p Ak)).set j (.log l p { g with segs := gs })).set j (.logv l p { g with segs := gs } v) = x := ⟨_, rfl⟩
        rw [hLP] at hp
        have hPi : LP[i]? = some (.disk p Ak) := by rw [← hLP, List.getElem?_set_ne (fun e => HIJ.out e.symm)]; exact hir
        have hPj : LP[j]? = some (.logv l p { g with segs := gs } v) := by rw [← hLP]; exact List.getElem?_set_self (by rw [List.length_set, List.length_set]; exact hjl)
        have HLIST : Hid (∀ (A' : AD) (Z : Item), (LP.set i (.disk p A')).set j Z = (L.set i (.disk p A')).set j Z) := fun A' Z => by
          rw [← hLP, List.set_set, List.set_comm _ _ (fun e => HIJ.out e.symm), List.set_set, List.set_set]
        have HPJ : Hid (∀ (A' : AD), (LP.set i (.disk p A'))[j]? = some (.logv l p { g with segs := gs } v)) := fun A' => by rw [List.getElem?_set_ne HIJ.out]; exact hPj
        obtain ⟨r, hat, _⟩ := hp.logv hPj
        have c3 := hat.c3
        have c0 := hat.c0
        cases gs with
        | nil =>
          obtain ⟨ad, cap, hv, _⟩ := hat.row
          subst hv
          have hRL0 : RL = (0, Ak, [], false) := by rw [← hq]; rfl
          have HLr : Hid (Lies B wr ((L.set i (.disk p R.2.1)).set j (.log l p R.2.2))) := by
            show Lies _ _ _
            rw [HRR.out, hRL0, ← HD.out]; exact hLr
          have hR1 : R.1 = 0 := by rw [HRR.out, hRL0]
          have HBR := hide hbr
          clear hat hp hLr hbr hq hjr hir hin hPi hPj hLP HLIST HPJ
          simp only [List.length_nil] at c3
          go_wp2
          go_ret
          try rw [hR1]
          exact ⟨rfl, HLr.out, HBR.out⟩
        | cons s gs =>
          obtain ⟨ad, cap, b, off, hv, had⟩ := form_of hat
          subst hv
          obtain rfl := had (by simp)
          obtain ⟨m, hm⟩ : ∃ m, gs.length = m := ⟨_, rfl⟩
          have c3' : wr.cell? ⟨l, 3, none⟩ = some (.slice (some ⟨b, off, none⟩) (m + 1) cap) := by rw [← hm]; exact c3
          obtain ⟨hbl, _, ⟨d0, d1, d2⟩, df⟩ := seg3 hat 0 (s := s) rfl
          simp only [Nat.zero_mul, Nat.add_zero] at d0 d1 d2
          have hsf := HG.out.segs s (hin s (List.mem_cons_self))
          have q1 : decide ((0 : Int) < ((m + 1 : Nat) : Int)) = true := decide_eq_true (by omega)
          cases hbel : belowA s n with
          | false =>
            have hRL0 : RL = (0, Ak, s :: gs, false) := by rw [← hq]; unfold resetL; rw [if_neg (by rw [hbel]; decide)]
            have HLr : Hid (Lies B wr ((L.set i (.disk p R.2.1)).set j (.log l p R.2.2))) := by
              show Lies _ _ _
              rw [HRR.out, hRL0, ← HD.out]; exact hLr
            have hR1 : R.1 = 0 := by rw [HRR.out, hRL0]
            have hab := allBelow_any s n wr
            rw [hbel] at hab
            have HAB := hide hab
            have HBR := hide hbr
            clear hat hp hbr hq hjr hir hin had c3 hab hm df hPi hPj hLP HLIST HPJ
            go_wp2_with fail
            refine (HAB.out).mono ?_
            rintro e w2 ⟨rfl, hb2⟩
            have HL2 := hide (HLr.out.below hb2)
            have HB2 := hide (HBR.out.trans (hb2.mono hLr.base))
            clear hLr hb2
            go_wp2
            go_ret
            try rw [hR1]
            exact ⟨rfl, HL2.out, HB2.out⟩
          | true =>
            have hab := allBelow_any s n wr
            rw [hbel] at hab
            have HAB := hide hab
            have HBR := hide hbr
            have HLR := hide hp
            have HJR := hide hPj
            have HIR := hide hPi
            have HSS : Hid (∀ (W : World) (it : Item), Lies B W (LP.set i it) → (W.cell? ⟨l, 0, none⟩ = some (.pointer (some ⟨p, 0, none⟩)) ∧ W.cell? ⟨l, 3, none⟩ = some (.slice (some ⟨b, off, none⟩) (m + 1) cap) ∧ W.cell? ⟨b, off, none⟩ = some (.int .i64 s.num) ∧ W.cell? ⟨b, off + 1, none⟩ = some (.int .i64 s.size) ∧ W.cell? ⟨b, off + 2, none⟩ = some (.int .i64 s.fin))) := fun W it hl => by
              obtain ⟨r2, hat2, _⟩ := hl.logv (by rw [List.getElem?_set_ne HIJ.out]; exact hPj)
              obtain ⟨_, _, ⟨a0, a1, a2⟩, _⟩ := seg3 hat2 0 (s := s) rfl
              simp only [Nat.zero_mul, Nat.add_zero] at a0 a1 a2
              refine ⟨hat2.c0, ?_, a0, a1, a2⟩
              rw [← hm]; exact hat2.c3
            have HIN := hide hin
            have HQ := hide hq
            have HSF := hide hsf
            have HBEL := hide hbel
            have HM := hide hm
            have HBL := hide hbl
            have hlw : l < wr.heap.size := lt_of_some hat.cells
            have HLW := hide hlw
            have HLEN : Hid (lenAt l wr = m + 1) := by show _ = _; unfold lenAt; rw [c3']
            clear hat hp hbr hq hjr hir hin had c3 hab df hLr hsf hbel hm hbl hlw hPi hPj hLP
            go_wp2_with fail
            refine (HAB.out).mono ?_
            rintro e w2 ⟨rfl, hb2⟩
            have hl2 := HLR.out.below hb2
            have hbb2 := HBR.out.trans (hb2.mono HLR.out.base)
            obtain ⟨V0, hV0⟩ : ∃ x, w2.drew = x := ⟨_, rfl⟩
            have hv0 := hl2.same (w' := w2.drew) (Nat.le_refl _) (fun _ _ _ => rfl)
            rw [hV0] at hv0
            have hvb0 : Below B w V0 := by rw [← hV0]; exact hbb2.drew
            have HC0 : Hid (∀ (q k : Nat), q < wr.heap.size → V0.cell? ⟨q, k, none⟩ = wr.cell? ⟨q, k, none⟩) := fun q k hq => by rw [← hV0]; exact World.cell?_of_block (hb2.block q hq)
            have e0 := (HC0.out l 0 HLW.out).trans c0
            have e3 := (HC0.out l 3 HLW.out).trans c3'
            have f0 := (HC0.out b off HBL.out).trans d0
            have f1 := (HC0.out b (off + 1) HBL.out).trans d1
            have f2 := (HC0.out b (off + 2) HBL.out).trans d2
            obtain ⟨r4, hat4, _⟩ := hv0.logv HJR.out
            have hFz : (fileB g.name s.num).size ≤ maxLen := by have := fileB_size (b := g.name) HG.out.name HSF.out.2.1 (by have := HSF.out.2.2; omega); unfold maxLen; omega
            have hfile := file_any (B := B) l s.num s.size s.fin g.name V0 hat4.c1 (lt_of_some hat4.cells) HG.out.name HSF.out.2.1 (by have := HSF.out.2.2; omega) (HENV.out.below hvb0) hv0.base
            have HFILE := hide hfile
            have HFZ := hide hFz
            have HV0 := hide hV0
            have HL0 := hide hv0
            have HVB := hide hvb0
            have hvs : l < V0.heap.size ∧ b < V0.heap.size := ⟨lt_of_some hat4.cells, by
              have := hb2.size; have h3 := HBL.out; rw [← hV0]; show b < w2.heap.size; omega⟩
            have HVS := hide hvs
            clear hl2 hbb2 hb2 hv0 hvb0 hV0 hat4 hfile hFz c0 c3' d0 d1 d2 hvs
            go_wp2
            refine wp_region_noPanic ?_
            refine wp_region_held_drew (S := fun wx => wx.cell? ⟨l, 0, none⟩ = some (.pointer (some ⟨p, 0, none⟩)) ∧ wx.cell? ⟨l, 3, none⟩ = some (.slice (some ⟨b, off, none⟩) (m + 1) cap) ∧ wx.cell? ⟨b, off, none⟩ = some (.int .i64 s.num) ∧ wx.cell? ⟨b, off + 1, none⟩ = some (.int .i64 s.size) ∧ wx.cell? ⟨b, off + 2, none⟩ = some (.int .i64 s.fin)) (by kernel_rfl) (by rw [HV0.out]; exact ⟨e0, e3, f0, f1, f2⟩) (fun hHeld => ?_)
            rw [HV0.out] at hHeld ⊢
            refine tK 0 (some 36) (.pointer (some ⟨l, 0, none⟩)) rfl hHeld ?_
            simp only [Act.put, pA, pB, pC]
            refine tK 1 (some 37) (.pointer (some ⟨l, 0, none⟩)) rfl hHeld ?_
            simp only [Act.put, pA, pB, pC]
            refine tK 2 (some 38) (.pointer (some ⟨l, 0, none⟩)) rfl hHeld ?_
            simp only [Act.put, pA, pB, pC]
            refine tH 3 (some 39) (.pointer (some ⟨p, 0, none⟩)) rfl (fun w hw => by obtain ⟨hw1, hw2, hw3, hw4, hw5⟩ := hw; first | rfl | (go_simp; done) | (go_simp; rfl)) hHeld ?_
            simp only [Act.put, pA, pB, pC]
            refine tK 4 (some 40) (.pointer (some ⟨l, 0, none⟩)) rfl hHeld ?_
            simp only [Act.put, pA, pB, pC]
            refine tK 5 (some 41) (.pointer (some ⟨l, 0, none⟩)) rfl hHeld ?_
            simp only [Act.put, pA, pB, pC]
            refine tK 6 (some 42) (.pointer (some ⟨l, 0, none⟩)) rfl hHeld ?_
            simp only [Act.put, pA, pB, pC]
            refine tK 7 (some 43) (.pointer (some ⟨l, 3, none⟩)) rfl hHeld ?_
            simp only [Act.put, pA, pB, pC]
            refine tH 8 (some 44) (.slice (some ⟨b, off, none⟩) (m + 1) cap) rfl (fun w hw => by obtain ⟨hw1, hw2, hw3, hw4, hw5⟩ := hw; first | rfl | (go_simp; done) | (go_simp; rfl)) hHeld ?_
            simp only [Act.put, pA, pB, pC]
            refine tH 9 (some 45) (.pointer (some ⟨b, off, none⟩)) rfl (fun w hw => by first | rfl | (go_simp; done) | (go_simp; rfl) | (go_simp; intro hbad; exfalso; omega)) hHeld ?_
            simp only [Act.put, pA, pB, pC]
            refine tH 10 (some 46) (.agg #[.int .i64 s.num, .int .i64 s.size, .int .i64 s.fin]) rfl (fun w hw => by obtain ⟨hw1, hw2, hw3, hw4, hw5⟩ := hw; first | rfl | (go_simp; done) | (go_simp; rfl)) hHeld ?_
            simp only [Act.put, pA, pB, pC]
            refine rdH 11 rfl (fun K hK => ?_)
            go_simp
            refine (HFILE.out).mono ?_
            rintro e W2 ⟨rfl, hb2⟩
            try go_wp2_with fail
            refine hK.out _ _ (⟨(World.cell?_of_block (hb2.block l HVS.out.1)).trans e0, (World.cell?_of_block (hb2.block l HVS.out.1)).trans e3, (World.cell?_of_block (hb2.block b HVS.out.2)).trans f0, (World.cell?_of_block (hb2.block b HVS.out.2)).trans f1, (World.cell?_of_block (hb2.block b HVS.out.2)).trans f2⟩) (fun hH => ?_)
            clear hK K hHeld
            have hHeld := hH
            clear hH
            refine rdH 12 rfl (fun K hK => ?_)
            go_simp
            refine (s_remove (HL0.out.below hb2) HIR.out (fileB g.name s.num) HFZ.out).mono ?_
            rintro e W3 ⟨rfl, hl3, hb3⟩
            try go_wp2_with fail
            refine hK.out _ _ (HSS.out W3 _ hl3) (fun hH => ?_)
            clear hK K hHeld
            have hHeld := hH
            clear hH
            refine tK 13 (some 5) (.int .i64 (Ak.remove (fileB g.name s.num).data.toList).1) rfl hHeld ?_
            simp only [Act.put, pA, pB, pC]
            refine ⟨by kernel_rfl, ?_⟩
            refine NoPanic.normal ?_
            have hbb3 := HVB.out.trans ((hb2.mono HL0.out.base).trans hb3)
            obtain ⟨E, A', hQ⟩ : ∃ e a, Ak.remove (fileB g.name s.num).data.toList = (e, a) := ⟨_, _, rfl⟩
            rw [hQ] at hl3 ⊢
            have hQ' : Ak.remove (fileL g.name.data.toList s.num) = (E, A') := hQ
            have hu := hl3.unpin (HPJ.out A')
            rw [HLIST.out] at hu
            have hju : ((L.set i (.disk p A')).set j (.log l p { g with segs := s :: gs }))[j]? = some (.log l p { g with segs := s :: gs }) := List.getElem?_set_self (by rw [List.length_set]; exact hjl)
            have hcs := HSS.out _ _ hl3
            by_cases hE : E = 0
            · subst hE
              have hq2 : resetL g.name.data.toList n A' gs = RL := by
                rw [← HQ.out]; conv => rhs; unfold resetL
                rw [if_pos HBEL.out, hQ']; simp only
                rw [if_neg (by simp)]
              obtain ⟨v9, r9, hat9, _, hnew, _⟩ := hu.newSegs hju
              have hv9 : v9 = .slice (some ⟨b, off, none⟩) (m + 1) cap := by have a := hat9.c3; rw [hcs.2.1] at a; cases a; rfl
              subst hv9
              obtain ⟨cp, hcp⟩ : ∃ cp, cap = cp + 1 := by
                obtain ⟨_, _, hv, hle, _⟩ := hat9.row
                cases hv
                simp only [List.length_cons] at hle
                exact ⟨cap - 1, by omega⟩
              subst hcp
              obtain ⟨hc3, hf3, hL4, hb4⟩ := hnew W3 (.slice (if cp = 0 then some ⟨b, off, none⟩ else some ⟨b, off + 3, none⟩) m cp) r9 gs hat9.row.tail (Turn.refl _ _) (fun b hb => .inl hb)
              rw [List.set_set] at hL4
              have HL4 := hide hL4
              have HB4 := hide (hbb3.trans hb4)
              have HQ2 := hide hq2
              clear hl3 hb3 hb2 hbb3 hQ hQ' hu hju hcs hq2 hat9 hnew hL4 hb4 hHeld
              have HLT := hide (lenAt_set (w := W3) (l := l) (v := .slice (if cp = 0 then some ⟨b, off, none⟩ else some ⟨b, off + 3, none⟩) m cp) (by rw [hc3]; rfl))
              go_wp2
              first
              | (go_roundw
                 case rel => exact ⟨gs, A', fun x hx => HIN.out x (List.mem_cons_of_mem _ hx), HQ2.out, HL4.out, HB4.out⟩
                 case measure => rw [HLT.out, HLEN.out]; exact Nat.lt_succ_self m)
              | exact ⟨⟨gs, A', fun x hx => HIN.out x (List.mem_cons_of_mem _ hx), HQ2.out, HL4.out, HB4.out⟩, by rw [HLT.out, HLEN.out]; exact Nat.lt_succ_self m⟩
            · have hRL0 : RL = (E, A', s :: gs, true) := by
                rw [← HQ.out]; unfold resetL
                rw [if_pos HBEL.out, hQ']; simp only
                rw [if_pos hE]
              obtain ⟨v9, r9, hat9, _⟩ := hu.logAt hju
              have x5 := hat9.c5
              have x5f := hat9.fz 5
              obtain ⟨hL4, hb4⟩ := hu.setLog hju 5 (.bool true) (g' := { g with segs := s :: gs, dead := true }) (fun v => rfl) rfl
              rw [List.set_set] at hL4
              have HL4 : Hid (Lies B (W3.setCell ⟨l, 5, none⟩ (.bool true)) ((L.set i (.disk p R.2.1)).set j (.log l p R.2.2))) := by
                show Lies _ _ _
                rw [HRR.out, hRL0]; exact hL4
              have hR1 : R.1 = E := by rw [HRR.out, hRL0]
              have HR1 := hide hR1
              have HB4 := hide (hbb3.trans hb4)
              have q9 : (E != 0) = true := by simpa using hE
              clear hl3 hb3 hb2 hbb3 hQ hQ' hu hju hcs hat9 hL4 hb4 hHeld hRL0 hR1
              go_wp2
              go_ret
              rw [HR1.out]
              exact ⟨rfl, HL4.out, HB4.out⟩
end
end Go.Proofs.YtdffmmiegpndkaaGreatDoor
