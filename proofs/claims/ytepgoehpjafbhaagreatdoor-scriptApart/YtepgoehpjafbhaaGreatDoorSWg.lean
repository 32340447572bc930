/-
  script's writer: fates.
-/
import Derived.Test.YtepgoehpjafbhaaGreatDoorSWf
namespace Go.Proofs.YtepgoehpjafbhaaGreatDoor
open Go.RowKit S
set_option linter.unusedVariables false
set_option linter.unusedSimpArgs false
def fatesW (F : Int → List UInt8) : List (Nat → Value) → WS → Option WS
  | [], x => some x
  | g :: t, x => (fateW F g x).bind fun y => fatesW F t y
theorem fatesW_cons (F : Int → List UInt8) (g : Nat → Value) (t : List (Nat → Value)) (x : WS) : fatesW F (g :: t) x = (fateW F g x).bind fun y => fatesW F t y := rfl
/-- Fates behind a slice's address, not in block b nor in v's own. -/
def FsAt (w : World) (b : Nat) (v : Value) (ad : Option Addr) (gs : List (Nat → Value)) : Prop := (∀ (i : Nat) (g : Nat → Value), gs[i]? = some g → FtOk g ∧ One 4 g) ∧ (gs = [] ∨ ∃ k o, ad = some ⟨k, o, none⟩ ∧ k < w.heap.size ∧ k ≠ b ∧ v.ownBlock ≠ some k ∧ ∀ (i : Nat) (g : Nat → Value), gs[i]? = some g → At w k (o + i * 4) g 4)
theorem FsAt.mw {w w' : World} {b : Nat} {v v' : Value} {ad : Option Addr} {gs : List (Nat → Value)} (h : FsAt w b v ad gs) (m : Mw b w v w' v') : FsAt w' b v' ad gs := by
  refine ⟨h.1, h.2.imp id fun ⟨k, o, h1, h2, h3, h4, h5⟩ => ⟨k, o, h1, Nat.lt_of_lt_of_le h2 m.size, h3, m.ne h2 h4, fun i g hg j hj => ?_⟩⟩
  have := h5 i g hg j hj
  unfold World.cell? at this ⊢
  rw [m.block k h2 h3 h4]
  exact this
set_option maxRecDepth 100000 in
set_option maxHeartbeats 1600000 in
theorem wfates_any {E : Prop} {B : Nat} {F : Int → List UInt8} (b N c off m : Nat) (ty : TypeId) (f : Nat → Value) (ad : Option Addr) (cap : Nat) (gs : List (Nat → Value)) (v : Value) (x : WS) (w : World) (hE : EnvW E B F w) (hB0 : B ≤ w.heap.size) (hb : B ≤ b) (hN : B ≤ N)
    (hW : Wr w b N v x.1 x.2) (hC : Has w c ty f m) (ho : off < m) (hf : f off = .slice ad gs.length cap) (hS : FsAt w b v ad gs) (hgl : gs.length ≤ 140737488355328) (hx0 : x.1.length ≤ 65536) :
    Calls Tryz.prog 94 #[.pointer (some ⟨b, 0, none⟩), .pointer (some ⟨c, off, none⟩)] w fun e w' => ∃ v', Mw b w v w' v' ∧
      ((∃ y, fatesW F gs x = some y ∧ e = .returned (.tuple #[]) ∧ Wr w' b N v' y.1 y.2 ∧ y.1.length ≤ 65536) ∨ (fatesW F gs x = none ∧ Bad e)) := by
  obtain ⟨R, hRR⟩ : ∃ R, fatesW F gs x = R := ⟨_, rfl⟩
  rw [hRR]
  have HQ0 := hide hRR
  have c0 : w.cell? ⟨c, off, none⟩ = some (.slice ad gs.length cap) := by rw [hC.cell off ho, hf]
  have hrow : ∀ k, v.ownBlock = some k → B ≤ k := fun k e => Nat.le_trans hN (hW.row k e)
  have HE := hide hE
  have HW := hide hW
  have HS := hide hS
  clear hRR hE hW hC hf hS
  go_enter Tryz.func94, Tryz.ntmps94
  go_wp2
  go_loopw [10] (fun i wr => ∃ (k : Nat) (vk : Value) (y : WS), k ≤ gs.length ∧ i = .int .i64 k ∧ R = fatesW F (gs.drop k) y ∧ Wr wr b N vk y.1 y.2 ∧ Mw b w v wr vk ∧ y.1.length ≤ 65536) (fun i _ => gs.length - (Lib.intOf i).toNat)
  case atStart => exact ⟨0, v, x, by omega, rfl, by rw [← HQ0.out, List.drop_zero], HW.out, Mw.refl _ _ _, hx0⟩
  case round =>
    obtain ⟨k, vk, y, hk, rfl, hQ, hWk, hMk, hy⟩ := hrel
    have HQ := hide hQ
    have HWk := hide hWk
    have HMk := hide hMk
    clear hQ hWk hMk
    by_cases hlt : k < gs.length
    · have hd : decide ((k : Int) < (gs.length : Int)) = true := decide_eq_true (by omega)
      have hx : gs[k]? = some gs[k] := List.getElem?_eq_getElem hlt
      have HQ1 : Hid (R = (fateW F gs[k] y).bind fun z => fatesW F (gs.drop (k + 1)) z) := hide (by rw [HQ.out, List.drop_eq_getElem_cons hlt, fatesW_cons])
      have hSk := HS.out.mw HMk.out
      obtain ⟨hgok, hg1⟩ := hSk.1 k _ hx
      obtain ⟨kb, o, rfl, hkb, hkb2, hkb3, hAt⟩ := hSk.2.resolve_left (fun e => by rw [e] at hlt; simp at hlt)
      have hAtk := hAt k _ hx
      generalize gs[k] = g at HQ1 hgok hg1 hAtk hx
      have HAt := hide hAtk
      obtain ⟨w1, hw1⟩ : ∃ z, wr.alloc (.cells (tabv zF 4) 49) = z := ⟨_, rfl⟩
      have b1 : Below wr.heap.size wr w1 := by rw [← hw1]; exact (Below.refl _ wr).alloc (Nat.le_refl _) _
      have s1 : w1.heap.size = wr.heap.size + 1 := by rw [← hw1, size_alloc]
      have hN1 : Has w1 wr.heap.size 49 zF 4 := by rw [← hw1]; exact Has.new wr _ _ 4 _ rfl
      have hN2 := hN1.row (tabv g 4) g rfl
      have b2 : Below wr.heap.size wr (w1.setRow wr.heap.size (tabv g 4)) := below_setRow b1 (Nat.le_refl _) _
      have HN1 := hide hN1
      have HN2 := hide hN2
      have HB2 := hide b2
      have HW1 : Hid (wr.alloc (.cells #[.string ⟨#[]⟩, .int .i64 0, .int .i64 0, .string ⟨#[]⟩] 49) = w1) := hide hw1
      clear hw1 hx hAtk hAt hN1 hN2 b1 b2 hSk
      go_wp2_with (first
        | rw [HW1.out]
        | refine wpW_load_at 49 _ rfl kb (o + k * 4) (by rfl) (by rfl) _ 4 _ HAt.out Tryz.underlying49 rfl infoF ?_
        | refine wpList_store_part rfl 49 _ _ rfl rfl wr.heap.size 0 g 4 (by rfl) (by rfl) 49 zF 4 HN1.out (by omega) infoF hg1 g (fun i hi => by unfold splice; rw [if_pos (by omega), Nat.sub_zero]) ?_)
      generalize hw2 : World.setRow w1 wr.heap.size (tabv g 4) = w2
      have HN3 : Hid (Has w2 wr.heap.size 49 g 4) := hide (by rw [← hw2]; exact HN2.out)
      have HB3 : Hid (Below wr.heap.size wr w2) := hide (by rw [← hw2]; exact HB2.out)
      have hW2 := HWk.out.below HB3.out
      have hM2 := HMk.out.trans (Mw.of (v := vk) HB3.out)
      have hE2 := HE.out.below (hM2.below hB0 hb (fun k e => by have := hrow k e; omega))
      have hvk : vk.ownBlock ≠ some wr.heap.size := fun e => by have := (World.ownsRow.lt HWk.out.2.2.1 _ e).2; omega
      have hbn : wr.heap.size ≠ b := by have := HWk.out.1; have := HWk.out.2.1; omega
      refine (wfate_any b N wr.heap.size g vk y _ hE2 (Nat.le_trans hB0 hM2.size) hb hN hW2 HN3.out hgok hbn hvk hy).mono ?_
      rintro e w3 ⟨v3, hM3, ⟨z, hA, rfl, hW3, hz⟩ | ⟨hA, rfl⟩⟩
      · have HQ2 : Hid (R = fatesW F (gs.drop (k + 1)) z) := hide (by rw [HQ1.out, hA]; rfl)
        have HW3 := hide hW3
        have HM3 := hide (hM2.trans hM3)
        clear hA hW3 hM3 hM2 hW2 hE2 hw2
        go_wp2
        refine ⟨⟨k + 1, v3, z, by omega, by go_num, HQ2.out, HW3.out, HM3.out, hz⟩, ?_⟩
        simp [Lib.intOf]; omega
      · have HQ2 : Hid (R = none) := hide (by rw [HQ1.out, hA]; rfl)
        have HM3 := hide (hM2.trans hM3)
        clear hA hM3 hM2 hW2 hE2 hw2
        go_wp2
        exact ⟨rfl, v3, HM3.out, .inr ⟨HQ2.out, rfl⟩⟩
    · have hke : k = gs.length := by omega
      have hd : decide ((k : Int) < (gs.length : Int)) = false := decide_eq_false (by omega)
      have HQn : Hid (R = some y) := hide (by rw [HQ.out, hke, List.drop_length]; rfl)
      clear hke
      go_wp2
      go_end0
      exact ⟨vk, HMk.out, .inl ⟨y, HQn.out, rfl, HWk.out, hy⟩⟩
end Go.Proofs.YtepgoehpjafbhaaGreatDoor
