import Derived.Test.YtdffmmiegpndkaaGreatDoorWKL
import Derived.Test.YtdffmmiegpndkaaGreatDoorWAgainP
import Derived.Test.YtdffmmiegpndkaaGreatDoorWKNum
/-
  The keeper's objects; appends.
-/
namespace Go.Proofs.YtdffmmiegpndkaaGreatDoor
open Go.RowKit Go.Maps
set_option linter.unusedVariables false
set_option linter.unusedSimpArgs false
def kcs (p l : Nat) (sz first : Int) (v : Value) (u : ByteArray) (way gone : Bool) : Array Value := #[.pointer (some ⟨p, 0, none⟩), .pointer (some ⟨l, 0, none⟩), .int .i64 sz, .int .i64 first, v, .string u, .bool way, .bool gone]
/-- The disk, the log, the book's list, the book. -/
def KL (k p l : Nat) (A : AD) (g : AL) (acked : List Key) (sz first : Int) (v : Value) (u : ByteArray) (way gone : Bool) : List Item :=
  [.disk p A, .log l p g, .row 9 v (acked.map encStr), .block k (.cells (kcs p l sz first v u way gone) 32 (0, 0))]
section
variable {B : Nat} {w : World} {k p l : Nat} {A : AD} {g : AL} {acked : List Key} {sz first : Int} {v : Value} {u : ByteArray} {way gone : Bool}
structure KCells (w : World) (k p l : Nat) (sz first : Int) (v : Value) (u : ByteArray) (way gone : Bool) : Prop where
  c0 : w.cell? ⟨k, 0, none⟩ = some (.pointer (some ⟨p, 0, none⟩))
  c1 : w.cell? ⟨k, 1, none⟩ = some (.pointer (some ⟨l, 0, none⟩))
  c2 : w.cell? ⟨k, 2, none⟩ = some (.int .i64 sz)
  c3 : w.cell? ⟨k, 3, none⟩ = some (.int .i64 first)
  c4 : w.cell? ⟨k, 4, none⟩ = some v
  c5 : w.cell? ⟨k, 5, none⟩ = some (.string u)
  c6 : w.cell? ⟨k, 6, none⟩ = some (.bool way)
  c7 : w.cell? ⟨k, 7, none⟩ = some (.bool gone)
  fz : ∀ j, w.frozen? ⟨k, j, none⟩ = false
theorem KL.cells (h : Lies B w (KL k p l A g acked sz first v u way gone)) : KCells w k p l sz first v u way gone := by
  have c := h.cellAt (q := 3) (b := k) (cs := kcs p l sz first v u way gone) (T := 32) rfl
  exact ⟨c 0, c 1, c 2, c 3, c 4, c 5, c 6, c 7, h.frozenAt (q := 3) (b := k) (cs := kcs p l sz first v u way gone) (T := 32) rfl⟩
theorem KL.set4 {v' : Value} (h : Lies B w [.disk p A, .log l p g, .row 9 v' (acked.map encStr), .block k (.cells (kcs p l sz first v u way gone) 32 (0, 0))]) : Lies B (w.setCell ⟨k, 4, none⟩ v') (KL k p l A g acked sz first v' u way gone) ∧ Below B w (w.setCell ⟨k, 4, none⟩ v') :=
  h.setAt (q := 3) (b := k) (cs := kcs p l sz first v u way gone) (T := 32) rfl 4 v'
theorem KL.set5 (h : Lies B w (KL k p l A g acked sz first v u way gone)) (u' : ByteArray) : Lies B (w.setCell ⟨k, 5, none⟩ (.string u')) (KL k p l A g acked sz first v u' way gone) ∧ Below B w (w.setCell ⟨k, 5, none⟩ (.string u')) :=
  h.setAt (q := 3) (b := k) (cs := kcs p l sz first v u way gone) (T := 32) rfl 5 _
theorem KL.set6 (h : Lies B w (KL k p l A g acked sz first v u way gone)) (b : Bool) : Lies B (w.setCell ⟨k, 6, none⟩ (.bool b)) (KL k p l A g acked sz first v u b gone) ∧ Below B w (w.setCell ⟨k, 6, none⟩ (.bool b)) :=
  h.setAt (q := 3) (b := k) (cs := kcs p l sz first v u way gone) (T := 32) rfl 6 _
theorem KL.set7 (h : Lies B w (KL k p l A g acked sz first v u way gone)) (b : Bool) : Lies B (w.setCell ⟨k, 7, none⟩ (.bool b)) (KL k p l A g acked sz first v u way b) ∧ Below B w (w.setCell ⟨k, 7, none⟩ (.bool b)) :=
  h.setAt (q := 3) (b := k) (cs := kcs p l sz first v u way gone) (T := 32) rfl 7 _
theorem KL.set3 (h : Lies B w (KL k p l A g acked sz first v u way gone)) (x : Int) : Lies B (w.setCell ⟨k, 3, none⟩ (.int .i64 x)) (KL k p l A g acked sz x v u way gone) ∧ Below B w (w.setCell ⟨k, 3, none⟩ (.int .i64 x)) :=
  h.setAt (q := 3) (b := k) (cs := kcs p l sz first v u way gone) (T := 32) rfl 3 _
/-- What a step leaves. -/
def KPost (B : Nat) (w : World) (k p l : Nat) (sz : Int) (gone : Bool) (M : Int) (w' : World) : Prop := ∃ A' g' acked' first' v' u' way', Lies B w' (KL k p l A' g' acked' sz first' v' u' way' gone) ∧ KS A' g' sz first' acked' u'.data.toList way' ∧ g'.next ≤ M ∧ Below B w w'
set_option maxRecDepth 100000 in
set_option maxHeartbeats 8000000 in
theorem appends_any (h : Lies B w (KL k p l A g acked sz first v u way gone)) (he : Env B w) (hs : KS A g sz first acked u.data.toList way) (t : ByteArray) (hm : g.next ≤ 1152921504606840000) :
    Calls Tryz.prog 7 #[.pointer (some ⟨k, 0, none⟩), .string t] w fun e w' => e = .returned (.bool true) ∧ KPost B w k p l sz gone (g.next + 1) w' := by
  have HENV := hide he
  have HL := hide h
  have HS := hide hs
  have HM := hide hm
  obtain ⟨c0, c1, c2, c3, c4, c5, c6, c7, fz⟩ := KL.cells h
  have HNX : Hid (∀ (wx : World) (A' : AD) (g' : AL) (acked' : List Key) (v' : Value) (u' : ByteArray) (way' : Bool), Lies B wx (KL k p l A' g' acked' sz first v' u' way' gone) → Calls Tryz.prog 17 #[.pointer (some ⟨l, 0, none⟩)] wx fun e w' => e = .returned (.int .i64 g'.next) ∧ w' = wx) := fun wx A' g' a' v' u' way' hl => wnext_any hl (j := 1) rfl
  obtain ⟨R, hR⟩ : ∃ R, appA A g t = R := ⟨_, rfl⟩
  have HAP := hide (append_any (i := 0) (j := 1) h rfl rfl (by decide) he hs.fit t R hR)
  have HRR := hide hR
  clear h hs hm hR he
  obtain ⟨nx, hnx⟩ : ∃ x, g.next = x := ⟨_, rfl⟩
  have HNE := hide hnx
  have hN0 := HNX.out w A g acked v u way HL.out
  rw [hnx] at hN0 ⊢
  have HN0 := hide hN0
  clear hN0 hnx
  go_enter Tryz.func7, Tryz.ntmps7
  go_wp2_with fail
  refine (HN0.out).mono ?_
  rintro e w1 ⟨rfl, hw1⟩
  obtain rfl := hw1.symm
  go_wp2_with fail
  refine (HAP.out).mono ?_
  rintro e w2 ⟨rfl, hl2, hb2⟩
  change Lies B w2 (KL k p l R.2.1 R.2.2 acked sz first v u way gone) at hl2
  clear c0 c1 c2 c3 c4 c5 c6 c7 fz
  obtain ⟨c0, c1, c2, c3, c4, c5, c6, c7, fz⟩ := KL.cells hl2
  have hcase := ks_app HS.out (HL.out.ok (i := 0) rfl) t HRR.out (hl2.ok (i := 0) rfl)
  have HL2 := hide hl2
  have HB2 := hide hb2
  have hN2 := HNX.out w2 R.2.1 R.2.2 acked v u way hl2
  clear hl2 hb2 HN0 HAP HRR
  obtain ⟨E, A', g'⟩ := R
  simp only at hcase HL2 hN2
  have HN2 := hide hN2
  clear hN2
  rcases hcase with ⟨rfl, he1⟩ | ⟨rfl, he0, hn1, hk1⟩ | ⟨rfl, he9, hn1, htz, hk1⟩ | ⟨rfl, hn0, hn9, hn1, htz, hk1⟩
  · simp only [Prod.mk.injEq] at he1
    obtain ⟨rfl, rfl, rfl⟩ := he1
    have hN3 := HN2.out
    rw [HNE.out] at hN3
    have HN3 := hide hN3
    clear hN3 HN2
    have hd : (nx == nx) = true := by simp
    go_wp2_with fail
    refine (HN3.out).mono ?_
    rintro e w3 ⟨rfl, hw3⟩
    obtain rfl := hw3
    go_wp2
    go_ret
    exact ⟨by simp, A', g', acked, first, v, u, true, HL2.out, HS.out, by have := HNE.out; omega, HB2.out⟩
  · obtain rfl : E = 0 := he0
    have HK1 := hide hk1
    have HN1 := hide hn1
    clear hk1 hn1
    have hfew := HS.out.few
    have hwr : wrap64 (nx + 1) = nx + 1 := by
      have a1 := HS.out.f0
      have a2 := HS.out.f1
      have a3 := HM.out
      have a4 := HNE.out
      unfold wrap64
      omega
    have hd : ((nx + 1) == (nx + 1)) = true := by simp
    obtain ⟨W1, hW1⟩ : ∃ x, w2.alloc (.cells #[.string t] 9) = x := ⟨_, rfl⟩
    obtain ⟨g1, hg1⟩ : ∃ x, w2.heap.size = x := ⟨_, rfl⟩
    obtain ⟨ad, n2, cap, W2, hrun, hl3, hb3⟩ := app_text HL2.out (q := 2) rfl t (by rw [List.length_map]; omega) 30 hW1 hg1
    have hlist : acked.map encStr ++ [Value.string t] = (acked ++ [t.data.toList]).map encStr := by simp [encStr]
    rw [hlist] at hl3
    change Lies B W2 [.disk p A', .log l p g', .row 9 (.slice ad n2 cap) ((acked ++ [t.data.toList]).map encStr), .block k (.cells (kcs p l sz first v u false gone) 32 (0, 0))] at hl3
    have hc3 := hl3.cellAt (q := 3) (b := k) (cs := kcs p l sz first v u false gone) (T := 32) rfl 4
    have hf3 := hl3.frozenAt (q := 3) (b := k) (cs := kcs p l sz first v u false gone) (T := 32) rfl 4
    simp only [kcs] at hc3
    change W2.cell? ⟨k, 4, none⟩ = some v at hc3
    obtain ⟨hl4, hb4⟩ := KL.set4 hl3
    obtain ⟨W3, hW3⟩ : ∃ x, W2.setCell ⟨k, 4, none⟩ (.slice ad n2 cap) = x := ⟨_, rfl⟩
    rw [hW3] at hl4 hb4
    have hb5 : Below B w W3 := (HB2.out.trans hb3).trans hb4
    obtain ⟨d0, d1, d2, d3, d4, d5, d6, d7, dz⟩ := KL.cells hl4
    have hN3 := HNX.out W3 A' g' _ _ u false hl4
    rw [HN1.out, HNE.out] at hN3
    have HN3 := hide hN3
    have HL4 := hide hl4
    have HB5 := hide hb5
    have HRUN := hide hrun
    clear hN3 hl4 hb5 hl3 hb3 hb4 HN2 hlist hrun hfew
    go_wp2_with (at_builtin; refine wpList_appS rfl _ _ _ rfl HRUN.out ?_)
    refine (HN3.out).mono ?_
    rintro e w3 ⟨rfl, hw3⟩
    obtain rfl := hw3
    go_wp2
    go_ret
    exact ⟨by simp, A', g', acked ++ [t.data.toList], first, _, u, false, HL4.out, HK1.out, by have := HN1.out; have := HNE.out; omega, HB5.out⟩
  · obtain rfl : E = 9 := he9
    have HK1 := hide hk1
    have HN1 := hide hn1
    clear hk1 hn1
    have hd : (nx == nx) = true := by simp
    have hd2 : decide ((t.size : Int) ≤ 65536) = true := decide_eq_true (by omega)
    obtain ⟨hl3, hb3⟩ := KL.set5 HL2.out t
    obtain ⟨W2, hW2⟩ : ∃ x, w2.setCell ⟨k, 5, none⟩ (.string t) = x := ⟨_, rfl⟩
    rw [hW2] at hl3 hb3
    obtain ⟨d0, d1, d2, d3, d4, d5, d6, d7, dz⟩ := KL.cells hl3
    obtain ⟨hl4, hb4⟩ := KL.set6 hl3 true
    obtain ⟨W3, hW3⟩ : ∃ x, W2.setCell ⟨k, 6, none⟩ (.bool true) = x := ⟨_, rfl⟩
    rw [hW3] at hl4 hb4
    obtain ⟨e0, e1, e2, e3, e4, e5, e6, e7, ez⟩ := KL.cells hl4
    have hb5 : Below B w W3 := (HB2.out.trans hb3).trans hb4
    have hN3 := HNX.out W3 A' g' _ _ t true hl4
    rw [HN1.out, HNE.out] at hN3
    have HN3 := hide hN3
    have HL4 := hide hl4
    have HB5 := hide hb5
    clear hN3 hl4 hb5 hl3 hb3 hb4 HN2
    go_wp2_with fail
    refine (HN3.out).mono ?_
    rintro e w3 ⟨rfl, hw3⟩
    obtain rfl := hw3
    go_wp2
    go_ret
    exact ⟨by simp, A', g', acked, first, v, t, true, HL4.out, HK1.out, by have := HN1.out; have := HNE.out; omega, HB5.out⟩
  · have HK1 := hide hk1
    have HN1 := hide hn1
    have q0 : (E == 0) = false := beq_eq_false_iff_ne.2 hn0
    have q9 : (E == 9) = false := beq_eq_false_iff_ne.2 hn9
    have hd : (nx == nx) = true := by simp
    have hN3 := HN2.out
    rw [HN1.out, HNE.out] at hN3
    have HN3 := hide hN3
    have hlast : ∃ b3 : Bool, decide ((t.size : Int) ≤ 65536) = b3 ∧ (b3 = false → (E == 3) = true) := by
      by_cases hz : t.size ≤ 65536
      · exact ⟨true, decide_eq_true (by omega), fun x => by cases x⟩
      · exact ⟨false, decide_eq_false (by omega), fun _ => beq_iff_eq.2 (htz.resolve_left hz)⟩
    obtain ⟨b3, hb3, hE3⟩ := hlast
    clear hk1 hn1 HN2 hN3 hn0 hn9 htz
    go_wp2_with fail
    refine (HN3.out).mono ?_
    rintro e w3 ⟨rfl, hw3⟩
    obtain rfl := hw3
    have HFIN : Hid (KPost B w k p l sz gone (nx + 1) w3) := ⟨A', g', acked, first, v, u, false, HL2.out, HK1.out, by have := HN1.out; have := HNE.out; omega, HB2.out⟩
    cases b3 with
    | true =>
      clear hE3
      go_wp2
      go_ret
      exact ⟨by simp, HFIN.out⟩
    | false =>
      have q3 := hE3 rfl
      clear hE3
      go_wp2
      go_ret
      exact ⟨by simp, HFIN.out⟩
end
end Go.Proofs.YtdffmmiegpndkaaGreatDoor
/-
  bytes: has one of these files bytes? A cell of a list that is the caller's own is written.
-/
namespace Go.Proofs.YtdffmmiegpndkaaGreatDoor
open Go.RowKit Go.Maps
set_option linter.unusedVariables false
set_option linter.unusedSimpArgs false
section
variable {B : Nat} {w : World} {L : List Item} {i q p : Nat} {A : AD}
theorem Lies.setSub {v : Value} {ks : List Key} (h : Lies B w L) (hq : L[q]? = some (.sub v ks)) (k : Nat) (hk : k < ks.length) (x : ByteArray) : ∃ b o cap, v = .slice (some ⟨b, o, none⟩) ks.length cap ∧ w.cell? ⟨b, o + k, none⟩ = some (.string ⟨(ks[k]).toArray⟩) ∧ w.frozen? ⟨b, o + k, none⟩ = false ∧ Lies B (w.setCell ⟨b, o + k, none⟩ (.string x)) (L.set q (.sub v (ks.set k x.data.toList))) ∧ Below B w (w.setCell ⟨b, o + k, none⟩ (.string x)) := by
  obtain ⟨S, ⟨ad, cap, hv, hr, hl, hfz, hS⟩, hB, _, hu⟩ := h.upd hq
  have hne : ks ≠ [] := fun e => by rw [e] at hk; simp at hk
  rcases hr with h1 | ⟨b, o, h1, hbl, hc⟩
  · exact absurd (List.map_eq_nil_iff.1 h1) hne
  subst h1
  have hfz0 := hfz b o hne rfl
  have hck : w.cell? ⟨b, o + k, none⟩ = some (.string ⟨(ks[k]).toArray⟩) := by rw [hc k (by simpa using hk), List.getElem?_map, List.getElem?_eq_getElem hk]; rfl
  have hSb : S b := (hS b).2 ⟨hne, o, rfl⟩
  have hh : ∀ x', x' ≠ b → (w.setCell ⟨b, o + k, none⟩ (.string x)).heap[x']? = w.heap[x']? := fun x' hx => Below.heap_setCell w ⟨b, o + k, none⟩ (.string x) x' hx
  have hsz : (w.setCell ⟨b, o + k, none⟩ (.string x)).heap.size = w.heap.size := by simp [World.setCell]
  have hcells : ∀ j, j < ((ks.set k x.data.toList).map encStr).length → (w.setCell ⟨b, o + k, none⟩ (.string x)).cell? ⟨b, o + j, none⟩ = ((ks.set k x.data.toList).map encStr)[j]? := fun j hj => by
    rw [List.length_map, List.length_set] at hj
    by_cases e : j = k
    · subst e
      rw [World.cell?_setCell_same' _ _ _ (by rw [hck]; rfl), List.getElem?_map, List.getElem?_set_self hk]
      rfl
    · rw [World.cell?_setCell_other _ _ _ _ (fun e2 => e (by have := congrArg Addr.off e2; simp at this; omega)), hc j (by simpa using hj), List.getElem?_map, List.getElem?_map, List.getElem?_set_ne (fun e2 => e e2.symm)]
  have hS' : ∀ b', S b' ↔ (ks.set k x.data.toList) ≠ [] ∧ ∃ o', (some ⟨b, o, none⟩ : Option Addr) = some ⟨b', o', none⟩ := fun b' => by
    rw [hS b']
    constructor
    · rintro ⟨_, o', e⟩; exact ⟨fun hc => hne (by simpa using hc), o', e⟩
    · rintro ⟨_, o', e⟩; exact ⟨hne, o', e⟩
  have hP : (Item.sub v (ks.set k x.data.toList)).P (w.setCell ⟨b, o + k, none⟩ (.string x)) S := ⟨some ⟨b, o, none⟩, cap, by rw [List.length_set]; exact hv, .inr ⟨b, o, rfl, by rw [hsz]; exact hbl, hcells⟩, by rw [List.length_set]; exact hl, fun b' o' h1' h2' q' => by cases h2'; rw [World.frozen?_setCell]; exact hfz0 q', hS'⟩
  obtain ⟨h2, h3⟩ := hu _ _ S hP ⟨⟨rfl, rfl, rfl, by rw [hsz]; exact Nat.le_refl _, fun x' hx hn => hh x' (fun e => hn (by rw [e]; exact hSb))⟩, fun b' hb' => .inl hb'⟩
  exact ⟨b, o, cap, hv, hck, hfz0 _, h2, h3⟩
def bytesA (A : AD) (ks : List Key) : Bool := ks.any fun k => decide (0 < (A.size k).1)
-- left out in this seat: bytes_any
end
end Go.Proofs.YtdffmmiegpndkaaGreatDoor
/-
  OPEN AND OPEN AGAIN: the last Open; whether a file has bytes; lists that are the caller's own.
-/
namespace Go.Proofs.YtdffmmiegpndkaaGreatDoor
open Go.RowKit Go.Maps
set_option linter.unusedVariables false
set_option linter.unusedSimpArgs false
/-- Open behind the next number: its form. -/
theorem again_over2 {A : AD} {nm : ByteArray} {sz first nx : Int} {R : RSt} (hT : Tidy A nm.data.toList) (hok : A.Ok) (hc : Cut R (rdOf A nm.data.toList).2) (hnx : nx = if R.pay = [] then first else R.next) (h2 : first ≤ nx) (ha : argsOk nm sz first) :
    ((R.pay ≠ [] ∨ 1152921504606846976 ≤ nx) → ∃ c, c ≠ 0 ∧ openA A nm sz (nx + 1) = ⟨none, [], c, A⟩) ∧
    (¬ (R.pay ≠ [] ∨ 1152921504606846976 ≤ nx) → ∃ g A', openA A nm sz (nx + 1) = ⟨some g, [], 0, A'⟩ ∧ Tidy A' nm.data.toList ∧ Alike A A' nm.data.toList) := by
  by_cases hbig : 1152921504606846976 ≤ nx
  · have : openA A nm sz (nx + 1) = ⟨none, [], 1, A⟩ := by unfold openA; rw [if_pos (.inr (.inr (.inr (.inr (by omega)))))]
    exact ⟨fun _ => ⟨1, by decide, this⟩, fun h => absurd (.inr hbig) h⟩
  · have ha' : argsOk nm sz (nx + 1) := by
      unfold argsOk at ha ⊢
      rintro (h | h | h | h | h)
      · exact ha (.inl h)
      · exact ha (.inr (.inl h))
      · exact ha (.inr (.inr (.inl h)))
      · exact ha (.inr (.inr (.inr (.inl (by omega)))))
      · omega
    by_cases hp : R.pay = []
    · obtain ⟨hgood, _⟩ := open_tidy (sz := sz) (first := nx + 1) (nx := nx + 1) hT hok ha' rfl (by rw [hc.pay, if_pos hp])
      rw [hc.pay, hp] at hgood
      obtain ⟨A', h3, h4, h5⟩ := hgood ⟨by simp, by omega⟩
      refine ⟨fun h => ?_, fun _ => ⟨_, A', by rw [h3, List.drop_nil], h4, h5⟩⟩
      rcases h with h | h
      · exact absurd hp h
      · exact absurd h hbig
    · rw [if_neg hp] at hnx
      obtain ⟨_, hbad⟩ := open_tidy (sz := sz) (first := nx + 1) (nx := nx) hT hok ha' rfl (by rw [hc.pay, if_neg hp, hc.next hp]; exact hnx)
      exact ⟨fun _ => ⟨60, by decide, hbad (by omega)⟩, fun h => absurd (.inl hp) h⟩
/-- Has a file of a tidy log bytes? Just if there is a payload. -/
theorem bytes_tidy {A : AD} {nm : Key} (hT : Tidy A nm) (hok : A.Ok) : bytesA A ((numsL A nm).map (fileL nm)) = true ↔ (rdOf A nm).2.pay ≠ [] := by
  have hoff : A.pow.off = false := by rw [hT.pow]; rfl
  have hsz : ∀ n ∈ numsL A nm, (A.size (fileL nm n)).1 = ((textOf A nm n).length : Int) := fun n hn => by
    obtain ⟨F, hF, hc⟩ := hT.clean n hn
    unfold AD.size
    rw [if_neg (by rw [hoff]; decide), hF]
    show (F.seen.length : Int) = _
    rw [hc.seen]
  unfold bytesA
  rw [List.any_eq_true]
  constructor
  · rintro ⟨k, hk, hd⟩ hp
    obtain ⟨n, hn, rfl⟩ := List.mem_map.1 hk
    rw [hsz n hn, (hT.pay).1 hp n hn] at hd
    simp at hd
  · intro hp
    have : ¬ ∀ n ∈ numsL A nm, textOf A nm n = [] := fun h => hp (hT.pay.2 h)
    rcases Classical.not_forall.1 this with ⟨n, hn2⟩
    rcases Classical.not_imp.1 hn2 with ⟨hn, ht⟩
    refine ⟨fileL nm n, List.mem_map.2 ⟨n, hn, rfl⟩, ?_⟩
    rw [hsz n hn]
    exact decide_eq_true (by have := List.length_pos_iff.2 ht; omega)
theorem files_nums {g : AL} {ns : List Int} (h : g.segs.map ASeg.num = ns) : g.files = ns.map (fileL g.name.data.toList) := by
  unfold AL.files
  rw [← h, List.map_map]
  rfl
theorem files_short {g : AL} (h : g.Ok) : ∀ k ∈ g.files, k.length ≤ 1000 := by
  intro k hk
  unfold AL.files at hk
  obtain ⟨s, hs, rfl⟩ := List.mem_map.1 hk
  have h1 := h.nums s hs
  have h2 := itoa_length h1.1 h1.2
  have h3 := h.name
  rw [← str_len] at h3
  unfold fileL
  rw [List.length_append, List.length_cons]
  omega
section
variable {B : Nat} {w : World} {L : List Item} {q j l p : Nat} {g : AL}
theorem row_text {ad : Option Addr} {n cap : Nat} {fs : List Key} (h : Lies B w L) (hq : L[q]? = some (.row 9 (.slice ad n cap) (fs.map encStr))) : RowAt w ad (fs.map encStr) ∧ fs.length = n ∧ fs.length ≤ maxLen := by
  obtain ⟨ad', cap', hv, hr, hl, hm⟩ := row_at (h.rowOf hq)
  rw [List.length_map] at hv hm
  cases hv
  exact ⟨hr, rfl, hm⟩
theorem names_at (h : Lies B w L) (hj : L[j]? = some (.log l p g)) (hg : g.Ok) (he : Env B w) {fs : List Key} {fn : Nat} (hfs : g.files = fs) (hfn : fs.length = fn) :
    Calls Tryz.prog 18 #[.pointer (some ⟨l, 0, none⟩)] w fun e w' => ∃ ad cap, e = .returned (.slice ad fn cap) ∧ Lies B w' (L ++ [.row 9 (.slice ad fn cap) (fs.map encStr)]) ∧ Below B w w' := by
  refine (names_any h hj hg he).mono ?_
  rintro e w' ⟨v, rfl, hl, hb⟩
  rw [hfs] at hl
  obtain ⟨ad, cap, hv, hr, _⟩ := row_at (hl.rowOf (i := L.length) (by rw [List.getElem?_append_right (Nat.le_refl _), Nat.sub_self]; rfl))
  rw [List.length_map, hfn] at hv
  subst hv
  exact ⟨ad, cap, rfl, hl, hb⟩
theorem texts_same (h : Lies B w L) {ad1 ad2 : Option Addr} {cap1 cap2 n : Nat} {ks : List Key} (h1 : RowAt w ad1 (ks.map encStr)) (h2 : RowAt w ad2 (ks.map encStr)) (hn : ks.length = n) (hm : ks.length ≤ maxLen) :
    Calls Tryz.prog 16 #[.slice ad1 n cap1, .slice ad2 n cap2] w fun e w' => e = .returned (.bool true) ∧ Lies B w' L ∧ Below B w w' := by
  subst hn
  refine (sameTexts_any w ad1 ad2 cap1 cap2 ks ks h1 h2 hm hm).mono ?_
  rintro e w' ⟨rfl, hb⟩
  exact ⟨by simp, h.below hb, hb.mono h.base⟩
theorem Lies.nilRow (h : Lies B w L) : Lies B w (L ++ [.row 9 (.slice none 0 0) (([] : List Key).map encStr)]) := by
  refine h.push (S' := fun _ => False) (Below.refl _ _) ⟨World.ownsRow_nil w 0 9 1, fun b => ?_⟩ (fun b hb => hb.elim)
  simp [Value.ownBlock]
/-- A row whose cells may be written. -/
theorem Lies.rowSub {v : Value} {xs : List Key} (h : Lies B w L) (hq : L[q]? = some (.row 9 v (xs.map encStr))) : Lies B w (L.set q (.sub v xs)) := by
  obtain ⟨ad, cap, hv, h1, h2, h3, h4, h5⟩ := h.toSub hq 0 (Nat.zero_le _)
  have e : (.slice (dropAd ad 0 cap) (xs.length - 0) (cap - 0) : Value) = v := by
    rw [hv, Nat.sub_zero, Nat.sub_zero]
    unfold dropAd
    split
    · rfl
    · cases ad with
      | none => rfl
      | some a =>
        obtain ⟨b, rfl⟩ := h3 a rfl
        rfl
  rw [e, List.drop_zero] at h5
  exact h5
end
/-- Go's s[k:] of texts. -/
theorem RowAt.dropAt {w : World} {b o : Nat} {ks : List Key} (h : RowAt w (some ⟨b, o, none⟩) (ks.map encStr)) (c : Nat) : RowAt w (some ⟨b, o + c, none⟩) ((ks.drop c).map encStr) := by
  rcases h with h | ⟨b', o', e, hl, hc⟩
  · exact .inl (by rw [List.map_eq_nil_iff.1 h, List.drop_nil]; rfl)
  · cases e
    refine .inr ⟨b, o + c, rfl, hl, fun i hi => ?_⟩
    rw [List.length_map, List.length_drop] at hi
    rw [Nat.add_assoc, hc (c + i) (by rw [List.length_map]; omega), List.getElem?_map, List.getElem?_map, List.getElem?_drop]
/-- min(by & 1048575 % (n + 1), 2^60 - from). -/
theorem by_of (X : Int) (n : Nat) (hn : n ≤ 300000) (f : Int) (h0 : 0 ≤ f) (h1 : f ≤ 1152921504606846976) : ∃ c : Nat, c ≤ n ∧ (c : Int) ≤ 1152921504606846976 - f ∧ min ((bits .and .i64 X 1048575).tmod ((n : Int) + 1)) (1152921504606846976 - f) = (c : Int) := by
  have hb : 0 ≤ bits .and .i64 X 1048575 := by
    have e : bits .and .i64 X 1048575 = IntKind.i64.wrap ((BitVec.ofInt 64 X &&& BitVec.ofInt 64 1048575).toNat : Int) := rfl
    have hle : (BitVec.ofInt 64 X &&& BitVec.ofInt 64 1048575).toNat ≤ 1048575 := by
      rw [BitVec.toNat_and]
      refine Nat.le_trans Nat.and_le_right ?_
      decide
    rw [e]
    generalize (BitVec.ofInt 64 X &&& BitVec.ofInt 64 1048575).toNat = m at hle
    rw [IntKind.wrap_i64]
    omega
  have h2 : 0 ≤ (bits .and .i64 X 1048575).tmod ((n : Int) + 1) := Int.tmod_nonneg _ hb
  have h3 : (bits .and .i64 X 1048575).tmod ((n : Int) + 1) < (n : Int) + 1 := Int.tmod_lt_of_pos _ (by omega)
  generalize (bits .and .i64 X 1048575).tmod ((n : Int) + 1) = U at h2 h3
  refine ⟨(min U (1152921504606846976 - f)).toNat, by omega, by omega, by omega⟩
end Go.Proofs.YtdffmmiegpndkaaGreatDoor
/-
  Rows of texts: s[k:], a copy of a part (out of WRTxt).
-/
namespace Go.Proofs.YtdffmmiegpndkaaGreatDoor
open Go.RowKit Go.Maps
set_option linter.unusedVariables false
set_option linter.unusedSimpArgs false
theorem elemT : Tryz.prog.elem 30 = 9 := by kernel_rfl
theorem undT : Tryz.prog.underlying 30 = some (.slice (Tryz.prog.elem 30)) := by kernel_rfl
theorem size9t (w : World) : (sizeOf 9).run Tryz.prog w = .ok 1 w := by
  have h : (Tryz.prog.info? 9).map (·.size) = some 1 := by kernel_rfl
  cases hq : Tryz.prog.info? 9 with
  | none => simp [hq] at h
  | some i => simp [hq] at h; simp [sizeOf, typeInfo, hq, h]
theorem cut_texts {B : Nat} {w : World} {L : List Item} {q : Nat} {v : Value} {xs : List Key} (h : Lies B w L) (hq : L[q]? = some (.row 9 v (xs.map encStr))) (k : Nat) (hk : k ≤ xs.length) :
    ∃ ad cap, (∀ w' : World, (Instr.slice 30 v (some (.int .i64 (k : Int))) none none).run Tryz.prog w' = .ok (.slice ad (xs.length - k) cap) w') ∧ Lies B w (L.set q (.sub (.slice ad (xs.length - k) cap) (xs.drop k))) := by
  obtain ⟨ad, cap, rfl, h1, h2, h3, h4, h5⟩ := h.toSub hq k hk
  refine ⟨dropAd ad k cap, cap - k, fun w' => ?_, h5⟩
  rw [run_slice_l w' 30 ad xs.length cap undT .i64 (k : Int) (by omega) (by omega), elemT, size9t]
  simp only [sliced, Int.toNat_natCast]
  unfold dropAd
  cases ad with
  | none =>
    have hc := h4 rfl
    subst hc
    have : k = 0 := by omega
    subst this
    simp
  | some a =>
    obtain ⟨b, rfl⟩ := h3 a rfl
    by_cases hc : cap = k
    · subst hc; simp
    · have : ¬ (cap - k = 0) := by omega
      simp [hc, this, addr_addK]
theorem copy_sub {B : Nat} {W : World} {L : List Item} {q : Nat} {x : Value} {ys : List Key} (h : Lies B W L) (hr : L[q]? = some (.sub x ys)) (hlen : ys.length ≤ 1000000000) (ty : TypeId) :
    ∃ ad cap W2, (Builtin.append_ #[30, 30] ty #[.slice none 0 0, x]).run Tryz.prog W = .ok (.slice ad ys.length cap) W2 ∧ Lies B W2 (L ++ [.row 9 (.slice ad ys.length cap) (ys.map encStr)]) ∧ Below B W W2 := by
  obtain ⟨adx, capx, rfl, hrow, _⟩ := h.subAt hr
  have hsrc : Src Tryz.prog 1 30 (.slice adx ys.length capx) (ys.map encStr).length (ys.map encStr) W := by
    rw [List.length_map]
    rcases hrow with h0 | ⟨b, o, rfl, hb, hc⟩
    · have : ys = [] := List.map_eq_nil_iff.1 h0
      subst this
      cases adx with
      | none => exact Src.ofNil W Tryz.underlying30 _
      | some a => exact Src.ofSlice W Tryz.underlying30 a 0 _ [] (by simp) (by simp) (by simp)
    · refine Src.ofSlice W Tryz.underlying30 ⟨b, o, none⟩ ys.length capx (ys.map encStr) (by simp) (fun j u hu => ?_) (fun u hu => by obtain ⟨k, _, rfl⟩ := List.mem_map.1 hu; rfl)
      have hj : j < (ys.map encStr).length := (List.getElem?_eq_some_iff.1 hu).1
      have := hc j hj
      rw [hu] at this
      simpa [addr_addK] using this
  have h0 := h.pushNil 9
  have hq0 : (L ++ [Item.row 9 (.slice none 0 0) []])[L.length]? = some (.row 9 (.slice none 0 0) []) := by rw [List.getElem?_append_right (Nat.le_refl _), Nat.sub_self]; rfl
  obtain ⟨v', W2, hrun, hown, hmv⟩ := run_append_rows (t := 30) (e := 9) (z := .string ⟨#[]⟩) (by_ := 16) Tryz.underlying30 infoStr rfl (by decide) W ty 30 (.slice none 0 0) [] (ys.map encStr) (h0.rowOf hq0) _ hsrc (by simp; omega)
  obtain ⟨ad, cap, hv, _⟩ := row_at hown
  subst hv
  obtain ⟨h2, hb2⟩ := h0.moved hq0 hown hmv
  rw [List.set_append_right _ _ (Nat.le_refl _), Nat.sub_self] at h2
  simp only [List.nil_append, List.length_map, List.set_cons_zero] at h2 hrun
  exact ⟨ad, cap, W2, hrun, h2, hb2⟩
theorem pick5 {B : Nat} {w : World} {a b c d e : Item} (h : Lies B w [a, b, c, d, e]) : Lies B w [a, b, e, d] := by
  refine h.choose (fun q => if q = 2 then 4 else q) (fun x y hx hy e => ?_) (fun q x hq => ?_)
  · simp at hx hy
    (repeat' split at e) <;> omega
  · have hlt := (List.getElem?_eq_some_iff.1 hq).1
    match q, hlt with
    | 0, _ => simpa using hq
    | 1, _ => simpa using hq
    | 2, _ => simpa using hq
    | 3, _ => simpa using hq
end Go.Proofs.YtdffmmiegpndkaaGreatDoor
