/-
  DanceRaw (printed by gen_d22.py).
-/
import Derived.Test.YtmmcoedgoekhgaaGreatDoorDFixed
import Derived.Test.YtmmcoedgoekhgaaGreatDoorDCut
import Derived.Test.YtmmcoedgoekhgaaGreatDoorDCut
import Derived.Test.YtmmcoedgoekhgaaGreatDoorDSettle
import Derived.Test.YtmmcoedgoekhgaaGreatDoorDSettle
import Derived.Test.YtmmcoedgoekhgaaGreatDoorDSettle
import Derived.Deep.CutRange
namespace Go.Proofs.YtmmcoedgoekhgaaGreatDoor
open Go.RowKit S
set_option linter.unusedVariables false
set_option linter.unusedSimpArgs false
set_option maxRecDepth 100000 in
set_option maxHeartbeats 40000000 in
theorem raw_walk (c : Cf) (s : St) (u : Upd) (m : Msg) (am id : Int) (lo lp : List Upd) (ls : List Slot) (hno : lo.length = s.ours.n) (hnp : lp.length = s.peers.n) (hns : ls.length = s.shelf.n) (zo : lo.length * 72 ≤ 140737488351232) (zp : lp.length * 72 ≤ 140737488351232) (zs : ls.length * 48 ≤ 140737488351232) (hx : -9223372036854775808 ≤ s.ho ∧ s.ho ≤ 9223372036854775807) (w : World) (hG : Glob num w) (hO : Upds w s.ours.ad lo) (hP : Upds w s.peers.ad lp) (hH : Slots w s.shelf.ad ls) : Calls Tryz.prog 3 #[.agg (tabv c.v 164), .agg (tabv s.v 115), .agg (tabv u.v 36), .agg (tabv m.v 70), .int .i64 am, .int .i64 id] w fun e w' => e = .returned (.bool true) ∧ Below w.heap.size w w' := by
  obtain ⟨w1, hW1⟩ : ∃ wX, w.alloc (.cells (tabv c.v 164) 26) = wX := ⟨_, rfl⟩
  have rc : Has w1 w.heap.size 26 c.v 164 := by rw [← hW1]; exact Has.new w 26 c.v 164 _ rfl
  have bb : Below w.heap.size w w1 := by rw [← hW1]; exact (Below.refl w.heap.size w).alloc (Nat.le_refl _) _
  have gb : Below w.heap.size w w1 := bb
  clear bb
  obtain ⟨w2, hW2⟩ : ∃ wX, w1.alloc (.cells (tabv s.v 115) 32) = wX := ⟨_, rfl⟩
  have rs : Has w2 w1.heap.size 32 s.v 115 := by rw [← hW2]; exact Has.new w1 32 s.v 115 _ rfl
  have bb : Below w1.heap.size w1 w2 := by rw [← hW2]; exact (Below.refl w1.heap.size w1).alloc (Nat.le_refl _) _
  have rc := rc.below bb rc.lt
  have gb : Below w.heap.size w w2 := gb.trans (bb.mono gb.size)
  clear bb
  obtain ⟨w3, hW3⟩ : ∃ wX, w2.alloc (.cells (tabv u.v 36) 34) = wX := ⟨_, rfl⟩
  have ru : Has w3 w2.heap.size 34 u.v 36 := by rw [← hW3]; exact Has.new w2 34 u.v 36 _ rfl
  have bb : Below w2.heap.size w2 w3 := by rw [← hW3]; exact (Below.refl w2.heap.size w2).alloc (Nat.le_refl _) _
  have rc := rc.below bb rc.lt
  have rs := rs.below bb rs.lt
  have gb : Below w.heap.size w w3 := gb.trans (bb.mono gb.size)
  clear bb
  obtain ⟨w4, hW4⟩ : ∃ wX, w3.alloc (.cells (tabv m.v 70) 36) = wX := ⟨_, rfl⟩
  have rm : Has w4 w3.heap.size 36 m.v 70 := by rw [← hW4]; exact Has.new w3 36 m.v 70 _ rfl
  have bb : Below w3.heap.size w3 w4 := by rw [← hW4]; exact (Below.refl w3.heap.size w3).alloc (Nat.le_refl _) _
  have rc := rc.below bb rc.lt
  have rs := rs.below bb rs.lt
  have ru := ru.below bb ru.lt
  have gb : Below w.heap.size w w4 := gb.trans (bb.mono gb.size)
  clear bb
  have Rb_c := hide rc
  have Rb_s := hide rs
  have Rb_u := hide ru
  have Rb_m := hide rm
  have GB := hide gb
  clear gb rc rs ru rm
  have HFx := hide (fun wx (hb : Below w.heap.size w wx) => lfixed_any wx (hG.up hb))
  have HCp := hide (fun wx (hb : Below w.heap.size w wx) => copy_any s lo lp ls hno hnp hns (by omega) (by omega) (by omega) wx (hO.below hb) (hP.below hb) (hH.below hb))
  have H10 : Hid (∀ (x1 x2 x3 : Sl) (B : Nat) (wx : World), Below w.heap.size w wx → OS B wx (setSl s x1 x2 x3) lo lp ls → Calls Tryz.prog 10 #[.agg (tabv (setSl s x1 x2 x3).v 115)] wx fun e w' => (∃ v, e = .returned v) ∧ Below wx.heap.size wx w') := fun x1 x2 x3 B wx hb h => by
    obtain ⟨e1, U1, k1⟩ := OwnU.sl (x := x1) h.o
    obtain ⟨e2, U2, k2⟩ := OwnU.sl (x := x2) h.p
    obtain ⟨e3, U3, k3⟩ := OwnS.sl (x := x3) h.f
    have g := hG.up hb
    refine (fixed_any (setSl s x1 x2 x3) wx).mono fun e w' h => ?_
    first | (obtain ⟨h1, h2⟩ := h; exact ⟨⟨_, h1⟩, h2⟩) | (obtain ⟨a, b, h1, _, h2⟩ := h; exact ⟨⟨_, h1⟩, h2⟩) | (obtain ⟨⟨a, b, c, h1, _⟩, h2⟩ := h; exact ⟨⟨_, h1⟩, h2⟩)
  have H12 : Hid (∀ (x1 x2 x3 : Sl) (B : Nat) (wx : World), Below w.heap.size w wx → OS B wx (setSl s x1 x2 x3) lo lp ls → Calls Tryz.prog 12 #[.agg (tabv (setSl s x1 x2 x3).v 115)] wx fun e w' => (∃ v, e = .returned v) ∧ Below wx.heap.size wx w') := fun x1 x2 x3 B wx hb h => by
    obtain ⟨e1, U1, k1⟩ := OwnU.sl (x := x1) h.o
    obtain ⟨e2, U2, k2⟩ := OwnU.sl (x := x2) h.p
    obtain ⟨e3, U3, k3⟩ := OwnS.sl (x := x3) h.f
    have g := hG.up hb
    refine (spendable_any (setSl s x1 x2 x3) lo lp e1 e2 (show x1.n ≤ _ by omega) (show x2.n ≤ _ by omega) (show x1.n ≤ x1.c by omega) (show x2.n ≤ x2.c by omega) wx U1 U2).mono fun e w' h => ?_
    first | (obtain ⟨h1, h2⟩ := h; exact ⟨⟨_, h1⟩, h2⟩) | (obtain ⟨a, b, h1, _, h2⟩ := h; exact ⟨⟨_, h1⟩, h2⟩) | (obtain ⟨⟨a, b, c, h1, _⟩, h2⟩ := h; exact ⟨⟨_, h1⟩, h2⟩)
  have H13 : Hid (∀ (x1 x2 x3 : Sl) (B : Nat) (wx : World), Below w.heap.size w wx → OS B wx (setSl s x1 x2 x3) lo lp ls → Calls Tryz.prog 13 #[.agg (tabv (setSl s x1 x2 x3).v 115)] wx fun e w' => (∃ v, e = .returned v) ∧ Below wx.heap.size wx w') := fun x1 x2 x3 B wx hb h => by
    obtain ⟨e1, U1, k1⟩ := OwnU.sl (x := x1) h.o
    obtain ⟨e2, U2, k2⟩ := OwnU.sl (x := x2) h.p
    obtain ⟨e3, U3, k3⟩ := OwnS.sl (x := x3) h.f
    have g := hG.up hb
    refine (peerSpendable_any (setSl s x1 x2 x3) lo lp e1 e2 (show x1.n ≤ _ by omega) (show x2.n ≤ _ by omega) (show x1.n ≤ x1.c by omega) (show x2.n ≤ x2.c by omega) wx U1 U2).mono fun e w' h => ?_
    first | (obtain ⟨h1, h2⟩ := h; exact ⟨⟨_, h1⟩, h2⟩) | (obtain ⟨a, b, h1, _, h2⟩ := h; exact ⟨⟨_, h1⟩, h2⟩) | (obtain ⟨⟨a, b, c, h1, _⟩, h2⟩ := h; exact ⟨⟨_, h1⟩, h2⟩)
  have H14 : Hid (∀ (x1 x2 x3 : Sl) (B : Nat) (wx : World), Below w.heap.size w wx → OS B wx (setSl s x1 x2 x3) lo lp ls → Calls Tryz.prog 14 #[.agg (tabv (setSl s x1 x2 x3).v 115), .int .i64 am, .agg (tabv (bv u.hash) 32)] wx fun e w' => (∃ v, e = .returned v) ∧ Below wx.heap.size wx w') := fun x1 x2 x3 B wx hb h => by
    obtain ⟨e1, U1, k1⟩ := OwnU.sl (x := x1) h.o
    obtain ⟨e2, U2, k2⟩ := OwnU.sl (x := x2) h.p
    obtain ⟨e3, U3, k3⟩ := OwnS.sl (x := x3) h.f
    have g := hG.up hb
    refine (doffer_any (setSl s x1 x2 x3) am u.hash lo lp e1 e2 (show x1.n ≤ _ by omega) (show x2.n ≤ _ by omega) (show x1.n ≤ x1.c by omega) (show x2.n ≤ x2.c by omega) hx wx U1 U2).mono fun e w' h => ?_
    first | (obtain ⟨h1, h2⟩ := h; exact ⟨⟨_, h1⟩, h2⟩) | (obtain ⟨a, b, h1, _, h2⟩ := h; exact ⟨⟨_, h1⟩, h2⟩) | (obtain ⟨⟨a, b, c, h1, _⟩, h2⟩ := h; exact ⟨⟨_, h1⟩, h2⟩)
  have H15 : Hid (∀ (x1 x2 x3 : Sl) (B : Nat) (wx : World), Below w.heap.size w wx → OS B wx (setSl s x1 x2 x3) lo lp ls → Calls Tryz.prog 15 #[.agg (tabv (setSl s x1 x2 x3).v 115), .int .i64 id, .agg (tabv (bv u.hash) 32)] wx fun e w' => (∃ v, e = .returned v) ∧ Below wx.heap.size wx w') := fun x1 x2 x3 B wx hb h => by
    obtain ⟨e1, U1, k1⟩ := OwnU.sl (x := x1) h.o
    obtain ⟨e2, U2, k2⟩ := OwnU.sl (x := x2) h.p
    obtain ⟨e3, U3, k3⟩ := OwnS.sl (x := x3) h.f
    have g := hG.up hb
    refine (dsettle_any num (setSl s x1 x2 x3) id u.hash lo lp e1 e2 (show x1.n ≤ _ by omega) (show x2.n ≤ _ by omega) (show x2.n ≤ x2.c by omega) hx wx g U1 U2).mono fun e w' h => ?_
    first | (obtain ⟨h1, h2⟩ := h; exact ⟨⟨_, h1⟩, h2⟩) | (obtain ⟨a, b, h1, _, h2⟩ := h; exact ⟨⟨_, h1⟩, h2⟩) | (obtain ⟨⟨a, b, c, h1, _⟩, h2⟩ := h; exact ⟨⟨_, h1⟩, h2⟩)
  have H16 : Hid (∀ (x1 x2 x3 : Sl) (B : Nat) (wx : World), Below w.heap.size w wx → OS B wx (setSl s x1 x2 x3) lo lp ls → Calls Tryz.prog 16 #[.agg (tabv (setSl s x1 x2 x3).v 115), .int .i64 id, .string u.note] wx fun e w' => (∃ v, e = .returned v) ∧ Below wx.heap.size wx w') := fun x1 x2 x3 B wx hb h => by
    obtain ⟨e1, U1, k1⟩ := OwnU.sl (x := x1) h.o
    obtain ⟨e2, U2, k2⟩ := OwnU.sl (x := x2) h.p
    obtain ⟨e3, U3, k3⟩ := OwnS.sl (x := x3) h.f
    have g := hG.up hb
    refine (drefuse_any num (setSl s x1 x2 x3) id u.note lo lp e1 e2 (show x1.n ≤ _ by omega) (show x2.n ≤ _ by omega) (show x2.n ≤ x2.c by omega) hx wx g U1 U2).mono fun e w' h => ?_
    first | (obtain ⟨h1, h2⟩ := h; exact ⟨⟨_, h1⟩, h2⟩) | (obtain ⟨a, b, h1, _, h2⟩ := h; exact ⟨⟨_, h1⟩, h2⟩) | (obtain ⟨⟨a, b, c, h1, _⟩, h2⟩ := h; exact ⟨⟨_, h1⟩, h2⟩)
  have H17 : Hid (∀ (x1 x2 x3 : Sl) (B : Nat) (wx : World), Below w.heap.size w wx → OS B wx (setSl s x1 x2 x3) lo lp ls → Calls Tryz.prog 17 #[.agg (tabv c.v 164), .agg (tabv (setSl s x1 x2 x3).v 115)] wx fun e w' => (∃ v, e = .returned v) ∧ Below wx.heap.size wx w') := fun x1 x2 x3 B wx hb h => by
    obtain ⟨e1, U1, k1⟩ := OwnU.sl (x := x1) h.o
    obtain ⟨e2, U2, k2⟩ := OwnU.sl (x := x2) h.p
    obtain ⟨e3, U3, k3⟩ := OwnS.sl (x := x3) h.f
    have g := hG.up hb
    refine (dsign_any c (setSl s x1 x2 x3) wx).mono fun e w' h => ?_
    first | (obtain ⟨h1, h2⟩ := h; exact ⟨⟨_, h1⟩, h2⟩) | (obtain ⟨a, b, h1, _, h2⟩ := h; exact ⟨⟨_, h1⟩, h2⟩) | (obtain ⟨⟨a, b, c, h1, _⟩, h2⟩ := h; exact ⟨⟨_, h1⟩, h2⟩)
  have H18 : Hid (∀ (x1 x2 x3 : Sl) (B : Nat) (wx : World), Below w.heap.size w wx → OS B wx (setSl s x1 x2 x3) lo lp ls → Calls Tryz.prog 18 #[.agg (tabv c.v 164), .agg (tabv (setSl s x1 x2 x3).v 115)] wx fun e w' => (∃ v, e = .returned v) ∧ Below wx.heap.size wx w') := fun x1 x2 x3 B wx hb h => by
    obtain ⟨e1, U1, k1⟩ := OwnU.sl (x := x1) h.o
    obtain ⟨e2, U2, k2⟩ := OwnU.sl (x := x2) h.p
    obtain ⟨e3, U3, k3⟩ := OwnS.sl (x := x3) h.f
    have g := hG.up hb
    refine (again_any num c (setSl s x1 x2 x3) lo lp e1 e2 (show x1.n ≤ _ by omega) (show x2.n ≤ _ by omega) (show x1.n ≤ x1.c by omega) (show x2.n ≤ x2.c by omega) wx g U1 U2).mono fun e w' h => ?_
    first | (obtain ⟨h1, h2⟩ := h; exact ⟨⟨_, h1⟩, h2⟩) | (obtain ⟨a, b, h1, _, h2⟩ := h; exact ⟨⟨_, h1⟩, h2⟩) | (obtain ⟨⟨a, b, c, h1, _⟩, h2⟩ := h; exact ⟨⟨_, h1⟩, h2⟩)
  have H19 : Hid (∀ (x1 x2 x3 : Sl) (B : Nat) (wx : World), Below w.heap.size w wx → OS B wx (setSl s x1 x2 x3) lo lp ls → Calls Tryz.prog 19 #[.agg (tabv (setSl s x1 x2 x3).v 115), .agg (tabv u.v 36)] wx fun e w' => (∃ v, e = .returned v) ∧ Below wx.heap.size wx w') := fun x1 x2 x3 B wx hb h => by
    obtain ⟨e1, U1, k1⟩ := OwnU.sl (x := x1) h.o
    obtain ⟨e2, U2, k2⟩ := OwnU.sl (x := x2) h.p
    obtain ⟨e3, U3, k3⟩ := OwnS.sl (x := x3) h.f
    have g := hG.up hb
    refine (heard_any num (setSl s x1 x2 x3) u lo lp e1 e2 (show x1.n ≤ _ by omega) (show x2.n ≤ _ by omega) (show x1.n ≤ x1.c by omega) (show x2.n ≤ x2.c by omega) wx g U1 U2).mono fun e w' h => ?_
    first | (obtain ⟨h1, h2⟩ := h; exact ⟨⟨_, h1⟩, h2⟩) | (obtain ⟨a, b, h1, _, h2⟩ := h; exact ⟨⟨_, h1⟩, h2⟩) | (obtain ⟨⟨a, b, c, h1, _⟩, h2⟩ := h; exact ⟨⟨_, h1⟩, h2⟩)
  have H20 : Hid (∀ (x1 x2 x3 : Sl) (B : Nat) (wx : World), Below w.heap.size w wx → OS B wx (setSl s x1 x2 x3) lo lp ls → Calls Tryz.prog 20 #[.agg (tabv c.v 164), .agg (tabv (setSl s x1 x2 x3).v 115), .agg (tabv m.v 70)] wx fun e w' => (∃ v, e = .returned v) ∧ Below wx.heap.size wx w') := fun x1 x2 x3 B wx hb h => by
    obtain ⟨e1, U1, k1⟩ := OwnU.sl (x := x1) h.o
    obtain ⟨e2, U2, k2⟩ := OwnU.sl (x := x2) h.p
    obtain ⟨e3, U3, k3⟩ := OwnS.sl (x := x3) h.f
    have g := hG.up hb
    refine (came_any num c (setSl s x1 x2 x3) m lo lp e1 e2 (show x1.n ≤ _ by omega) (show x2.n ≤ _ by omega) (show x1.n ≤ x1.c by omega) (show x2.n ≤ x2.c by omega) wx g U1 U2).mono fun e w' h => ?_
    first | (obtain ⟨h1, h2⟩ := h; exact ⟨⟨_, h1⟩, h2⟩) | (obtain ⟨a, b, h1, _, h2⟩ := h; exact ⟨⟨_, h1⟩, h2⟩) | (obtain ⟨⟨a, b, c, h1, _⟩, h2⟩ := h; exact ⟨⟨_, h1⟩, h2⟩)
  have H22 : Hid (∀ (x1 x2 x3 : Sl) (B : Nat) (wx : World), Below w.heap.size w wx → OS B wx (setSl s x1 x2 x3) lo lp ls → Calls Tryz.prog 22 #[.agg (tabv (setSl s x1 x2 x3).v 115), .agg (tabv m.v 70)] wx fun e w' => (∃ v, e = .returned v) ∧ Below wx.heap.size wx w') := fun x1 x2 x3 B wx hb h => by
    obtain ⟨e1, U1, k1⟩ := OwnU.sl (x := x1) h.o
    obtain ⟨e2, U2, k2⟩ := OwnU.sl (x := x2) h.p
    obtain ⟨e3, U3, k3⟩ := OwnS.sl (x := x3) h.f
    have g := hG.up hb
    refine (revoked_any (setSl s x1 x2 x3) m ls e3 wx g U3).mono fun e w' h => ?_
    first | (obtain ⟨h1, h2⟩ := h; exact ⟨⟨_, h1⟩, h2⟩) | (obtain ⟨a, b, h1, _, h2⟩ := h; exact ⟨⟨_, h1⟩, h2⟩) | (obtain ⟨⟨a, b, c, h1, _⟩, h2⟩ := h; exact ⟨⟨_, h1⟩, h2⟩)
  have H23 : Hid (∀ (x1 x2 x3 : Sl) (B : Nat) (wx : World), Below w.heap.size w wx → OS B wx (setSl s x1 x2 x3) lo lp ls → Calls Tryz.prog 23 #[.agg (tabv (setSl s x1 x2 x3).v 115)] wx fun e w' => (∃ v, e = .returned v) ∧ Below wx.heap.size wx w') := fun x1 x2 x3 B wx hb h => by
    obtain ⟨e1, U1, k1⟩ := OwnU.sl (x := x1) h.o
    obtain ⟨e2, U2, k2⟩ := OwnU.sl (x := x2) h.p
    obtain ⟨e3, U3, k3⟩ := OwnS.sl (x := x3) h.f
    have g := hG.up hb
    refine (cut_any (setSl s x1 x2 x3) lo lp ls e1 e2 e3 (by omega) (by omega) (by omega) (show x2.n ≤ x2.c by omega) wx U1 U2 U3).mono fun e w' h => ?_
    first | (obtain ⟨h1, h2⟩ := h; exact ⟨⟨_, h1⟩, h2⟩) | (obtain ⟨a, b, h1, _, h2⟩ := h; exact ⟨⟨_, h1⟩, h2⟩) | (obtain ⟨⟨a, b, c, h1, _⟩, h2⟩ := h; exact ⟨⟨_, h1⟩, h2⟩)
  have H21 := hide (fun wx (hb : Below w.heap.size w wx) => reveal_any num c id wx (hG.up hb))
  clear hno hnp hns zo zp zs hx hG hO hP hH
  have hUh : ∀ wx, Has wx w2.heap.size 34 u.v 36 → At wx w2.heap.size 3 (bv u.hash) 32 := fun wx h => h.at_ 3 (by omega) (fun i hi => Upd.v_hash u i hi)
  replace hUh := hide hUh
  go_enter Tryz.func3, Tryz.ntmps3
  go_wp2_with (fail)
  refine (HFx.out _ GB.out).mono ?_
  rintro e y1 ⟨rfl, hb⟩
  have Ry1_c := hide (Rb_c.out.below hb Rb_c.out.lt)
  have Ry1_s := hide (Rb_s.out.below hb Rb_s.out.lt)
  have Ry1_u := hide (Rb_u.out.below hb Rb_u.out.lt)
  have Ry1_m := hide (Rb_m.out.below hb Rb_m.out.lt)
  have Gy1 := hide (GB.out.trans (hb.mono GB.out.size))
  clear hb
  go_wp2_with (first | refine wpW_load_at 32 _ rfl (w1.heap.size) (0) (by rfl) (by rfl) _ 115 _ (Ry1_s.out.at_ 0 (by omega) (fun i hi => by rw [Nat.zero_add])) Tryz.underlying32 rfl infoSt ?_ | fail)
  refine (HCp.out _ Gy1.out).mono ?_
  rintro e y2 ⟨⟨x1, x2, x3, rfl, hOS⟩, hb⟩
  have HOS := hide hOS
  clear hOS
  have Ry2_c := hide (Ry1_c.out.below hb Ry1_c.out.lt)
  have Ry2_s := hide (Ry1_s.out.below hb Ry1_s.out.lt)
  have Ry2_u := hide (Ry1_u.out.below hb Ry1_u.out.lt)
  have Ry2_m := hide (Ry1_m.out.below hb Ry1_m.out.lt)
  have Gy2 := hide (Gy1.out.trans (hb.mono Gy1.out.size))
  clear hb
  go_wp2_with (fail)
  refine (H10.out x1 x2 x3 _ _ Gy2.out HOS.out).mono ?_
  rintro e y3 ⟨⟨v, rfl⟩, hb⟩
  clear HOS
  have Ry3_c := hide (Ry2_c.out.below hb Ry2_c.out.lt)
  have Ry3_s := hide (Ry2_s.out.below hb Ry2_s.out.lt)
  have Ry3_u := hide (Ry2_u.out.below hb Ry2_u.out.lt)
  have Ry3_m := hide (Ry2_m.out.below hb Ry2_m.out.lt)
  have Gy3 := hide (Gy2.out.trans (hb.mono Gy2.out.size))
  clear hb
  go_wp2_with (first | refine wpW_load_at 32 _ rfl (w1.heap.size) (0) (by rfl) (by rfl) _ 115 _ (Ry3_s.out.at_ 0 (by omega) (fun i hi => by rw [Nat.zero_add])) Tryz.underlying32 rfl infoSt ?_ | fail)
  refine (HCp.out _ Gy3.out).mono ?_
  rintro e y4 ⟨⟨x1, x2, x3, rfl, hOS⟩, hb⟩
  have HOS := hide hOS
  clear hOS
  have Ry4_c := hide (Ry3_c.out.below hb Ry3_c.out.lt)
  have Ry4_s := hide (Ry3_s.out.below hb Ry3_s.out.lt)
  have Ry4_u := hide (Ry3_u.out.below hb Ry3_u.out.lt)
  have Ry4_m := hide (Ry3_m.out.below hb Ry3_m.out.lt)
  have Gy4 := hide (Gy3.out.trans (hb.mono Gy3.out.size))
  clear hb
  go_wp2_with (fail)
  refine (H12.out x1 x2 x3 _ _ Gy4.out HOS.out).mono ?_
  rintro e y5 ⟨⟨v, rfl⟩, hb⟩
  clear HOS
  have Ry5_c := hide (Ry4_c.out.below hb Ry4_c.out.lt)
  have Ry5_s := hide (Ry4_s.out.below hb Ry4_s.out.lt)
  have Ry5_u := hide (Ry4_u.out.below hb Ry4_u.out.lt)
  have Ry5_m := hide (Ry4_m.out.below hb Ry4_m.out.lt)
  have Gy5 := hide (Gy4.out.trans (hb.mono Gy4.out.size))
  clear hb
  go_wp2_with (first | refine wpW_load_at 32 _ rfl (w1.heap.size) (0) (by rfl) (by rfl) _ 115 _ (Ry5_s.out.at_ 0 (by omega) (fun i hi => by rw [Nat.zero_add])) Tryz.underlying32 rfl infoSt ?_ | fail)
  refine (HCp.out _ Gy5.out).mono ?_
  rintro e y6 ⟨⟨x1, x2, x3, rfl, hOS⟩, hb⟩
  have HOS := hide hOS
  clear hOS
  have Ry6_c := hide (Ry5_c.out.below hb Ry5_c.out.lt)
  have Ry6_s := hide (Ry5_s.out.below hb Ry5_s.out.lt)
  have Ry6_u := hide (Ry5_u.out.below hb Ry5_u.out.lt)
  have Ry6_m := hide (Ry5_m.out.below hb Ry5_m.out.lt)
  have Gy6 := hide (Gy5.out.trans (hb.mono Gy5.out.size))
  clear hb
  go_wp2_with (fail)
  refine (H13.out x1 x2 x3 _ _ Gy6.out HOS.out).mono ?_
  rintro e y7 ⟨⟨v, rfl⟩, hb⟩
  clear HOS
  have Ry7_c := hide (Ry6_c.out.below hb Ry6_c.out.lt)
  have Ry7_s := hide (Ry6_s.out.below hb Ry6_s.out.lt)
  have Ry7_u := hide (Ry6_u.out.below hb Ry6_u.out.lt)
  have Ry7_m := hide (Ry6_m.out.below hb Ry6_m.out.lt)
  have Gy7 := hide (Gy6.out.trans (hb.mono Gy6.out.size))
  clear hb
  go_upto_region 6 with fail
  refine wp_region_noPanic ?_
  refine wp_region_held_drew (S := fun wx => Below y7.heap.size y7 wx) (by kernel_rfl) ((Below.refl _ _).drew) (fun hHeld => ?_)
  generalize hwd : World.drew y7 = wd at hHeld ⊢
  refine Cu.takeH 0 (some 24) (.agg (tabv s.v 115)) rfl rfl (by kernel_rfl) (by kernel_rfl) (by kernel_rfl) (fun _ _ _ h => h) (by rfl) (fun w_ hw => run_load_at w_ 32 _ rfl (w1.heap.size) 0 (by rfl) _ 115 _ ((Ry7_s.out.below hw Ry7_s.out.lt).at_ 0 (by omega) (fun i hi => by rw [Nat.zero_add])) Tryz.underlying32 rfl infoSt) hHeld ?_
  simp only [Act.put, List.setIfInBounds_toArray, List.set_cons_zero, List.set_cons_succ]
  refine Cu.takeH 2 (some 26) (.int .i64 am) rfl rfl (by kernel_rfl) (by kernel_rfl) (by kernel_rfl) (fun _ _ _ h => h) (by rfl) (fun w_ hw => by first | rfl | (go_simp; done) | (go_simp; rfl) | (go_simp; omega)) hHeld ?_
  simp only [Act.put, List.setIfInBounds_toArray, List.set_cons_zero, List.set_cons_succ]
  refine Cu.takeH 3 (some 27) (.pointer (some ⟨w2.heap.size, 3, none⟩)) rfl rfl (by kernel_rfl) (by kernel_rfl) (by kernel_rfl) (fun _ _ _ h => h) (by rfl) (fun w_ hw => by first | rfl | (go_simp; done) | (go_simp; rfl) | (go_simp; omega)) hHeld ?_
  simp only [Act.put, List.setIfInBounds_toArray, List.set_cons_zero, List.set_cons_succ]
  refine Cu.takeH 4 (some 28) (.agg (tabv (bv u.hash) 32)) rfl rfl (by kernel_rfl) (by kernel_rfl) (by kernel_rfl) (fun _ _ _ h => h) (by rfl) (fun w_ hw => run_load_at w_ 23 _ rfl (w2.heap.size) 3 (by rfl) _ 32 _ (hUh.out _ (Ry7_u.out.below hw Ry7_u.out.lt)) Tryz.underlying23 rfl info26) hHeld ?_
  simp only [Act.put, List.setIfInBounds_toArray, List.set_cons_zero, List.set_cons_succ]
  refine wpAnyH_ready (rs := [1]) (by kernel_rfl) (by simp) (AllReadyH.cons rfl (fun K hK => ?_) AllReadyH.nil)
  rw [if_pos (by rfl)]
  go_simp
  refine (HCp.out _ (Gy7.out.trans (hHeld.mono Gy7.out.size))).mono ?_
  rintro e ya ⟨⟨x1, x2, x3, rfl, hOS⟩, hbq⟩
  try go_wp2_with fail
  refine hK.out _ _ (hHeld.trans (hbq.mono hHeld.size)) (fun hH => ?_)
  clear hK K hHeld
  have hHeld := hH
  clear hH
  have HOS := hide hOS
  clear hOS hbq
  refine wpAnyH_ready (rs := [5]) (by kernel_rfl) (by simp) (AllReadyH.cons rfl (fun K hK => ?_) AllReadyH.nil)
  rw [if_pos (by rfl)]
  go_simp
  refine (H14.out x1 x2 x3 _ _ (Gy7.out.trans (hHeld.mono Gy7.out.size)) HOS.out).mono ?_
  rintro e yb6 ⟨⟨v, rfl⟩, hbq⟩
  try go_wp2_with fail
  refine hK.out _ _ (hHeld.trans (hbq.mono hHeld.size)) (fun hH => ?_)
  clear hK K hHeld
  have hHeld := hH
  clear hH
  clear HOS hbq
  refine ⟨by kernel_rfl, ?_⟩
  refine NoPanic.normal ?_
  have hb := hHeld
  clear hHeld hwd
  have Ryb6_c := hide (Ry7_c.out.below hb Ry7_c.out.lt)
  have Ryb6_s := hide (Ry7_s.out.below hb Ry7_s.out.lt)
  have Ryb6_u := hide (Ry7_u.out.below hb Ry7_u.out.lt)
  have Ryb6_m := hide (Ry7_m.out.below hb Ry7_m.out.lt)
  have Gyb6 := hide (Gy7.out.trans (hb.mono Gy7.out.size))
  clear hb
  go_upto_region 7 with fail
  refine wp_region_noPanic ?_
  refine wp_region_held_drew (S := fun wx => Below yb6.heap.size yb6 wx) (by kernel_rfl) ((Below.refl _ _).drew) (fun hHeld => ?_)
  generalize hwd : World.drew yb6 = wd at hHeld ⊢
  refine Cu.takeH 0 (some 30) (.agg (tabv s.v 115)) rfl rfl (by kernel_rfl) (by kernel_rfl) (by kernel_rfl) (fun _ _ _ h => h) (by rfl) (fun w_ hw => run_load_at w_ 32 _ rfl (w1.heap.size) 0 (by rfl) _ 115 _ ((Ryb6_s.out.below hw Ryb6_s.out.lt).at_ 0 (by omega) (fun i hi => by rw [Nat.zero_add])) Tryz.underlying32 rfl infoSt) hHeld ?_
  simp only [Act.put, List.setIfInBounds_toArray, List.set_cons_zero, List.set_cons_succ]
  refine Cu.takeH 2 (some 32) (.int .i64 id) rfl rfl (by kernel_rfl) (by kernel_rfl) (by kernel_rfl) (fun _ _ _ h => h) (by rfl) (fun w_ hw => by first | rfl | (go_simp; done) | (go_simp; rfl) | (go_simp; omega)) hHeld ?_
  simp only [Act.put, List.setIfInBounds_toArray, List.set_cons_zero, List.set_cons_succ]
  refine Cu.takeH 3 (some 33) (.pointer (some ⟨w2.heap.size, 3, none⟩)) rfl rfl (by kernel_rfl) (by kernel_rfl) (by kernel_rfl) (fun _ _ _ h => h) (by rfl) (fun w_ hw => by first | rfl | (go_simp; done) | (go_simp; rfl) | (go_simp; omega)) hHeld ?_
  simp only [Act.put, List.setIfInBounds_toArray, List.set_cons_zero, List.set_cons_succ]
  refine Cu.takeH 4 (some 34) (.agg (tabv (bv u.hash) 32)) rfl rfl (by kernel_rfl) (by kernel_rfl) (by kernel_rfl) (fun _ _ _ h => h) (by rfl) (fun w_ hw => run_load_at w_ 23 _ rfl (w2.heap.size) 3 (by rfl) _ 32 _ (hUh.out _ (Ryb6_u.out.below hw Ryb6_u.out.lt)) Tryz.underlying23 rfl info26) hHeld ?_
  simp only [Act.put, List.setIfInBounds_toArray, List.set_cons_zero, List.set_cons_succ]
  refine wpAnyH_ready (rs := [1]) (by kernel_rfl) (by simp) (AllReadyH.cons rfl (fun K hK => ?_) AllReadyH.nil)
  rw [if_pos (by rfl)]
  go_simp
  refine (HCp.out _ (Gyb6.out.trans (hHeld.mono Gyb6.out.size))).mono ?_
  rintro e ya ⟨⟨x1, x2, x3, rfl, hOS⟩, hbq⟩
  try go_wp2_with fail
  refine hK.out _ _ (hHeld.trans (hbq.mono hHeld.size)) (fun hH => ?_)
  clear hK K hHeld
  have hHeld := hH
  clear hH
  have HOS := hide hOS
  clear hOS hbq
  refine wpAnyH_ready (rs := [5]) (by kernel_rfl) (by simp) (AllReadyH.cons rfl (fun K hK => ?_) AllReadyH.nil)
  rw [if_pos (by rfl)]
  go_simp
  refine (H15.out x1 x2 x3 _ _ (Gyb6.out.trans (hHeld.mono Gyb6.out.size)) HOS.out).mono ?_
  rintro e yb7 ⟨⟨v, rfl⟩, hbq⟩
  try go_wp2_with fail
  refine hK.out _ _ (hHeld.trans (hbq.mono hHeld.size)) (fun hH => ?_)
  clear hK K hHeld
  have hHeld := hH
  clear hH
  clear HOS hbq
  refine ⟨by kernel_rfl, ?_⟩
  refine NoPanic.normal ?_
  have hb := hHeld
  clear hHeld hwd
  have Ryb7_c := hide (Ryb6_c.out.below hb Ryb6_c.out.lt)
  have Ryb7_s := hide (Ryb6_s.out.below hb Ryb6_s.out.lt)
  have Ryb7_u := hide (Ryb6_u.out.below hb Ryb6_u.out.lt)
  have Ryb7_m := hide (Ryb6_m.out.below hb Ryb6_m.out.lt)
  have Gyb7 := hide (Gyb6.out.trans (hb.mono Gyb6.out.size))
  clear hb
  go_upto_region 8 with fail
  refine wp_region_noPanic ?_
  refine wp_region_held_drew (S := fun wx => Below yb7.heap.size yb7 wx) (by kernel_rfl) ((Below.refl _ _).drew) (fun hHeld => ?_)
  generalize hwd : World.drew yb7 = wd at hHeld ⊢
  refine Cu.takeH 0 (some 36) (.agg (tabv s.v 115)) rfl rfl (by kernel_rfl) (by kernel_rfl) (by kernel_rfl) (fun _ _ _ h => h) (by rfl) (fun w_ hw => run_load_at w_ 32 _ rfl (w1.heap.size) 0 (by rfl) _ 115 _ ((Ryb7_s.out.below hw Ryb7_s.out.lt).at_ 0 (by omega) (fun i hi => by rw [Nat.zero_add])) Tryz.underlying32 rfl infoSt) hHeld ?_
  simp only [Act.put, List.setIfInBounds_toArray, List.set_cons_zero, List.set_cons_succ]
  refine Cu.takeH 2 (some 38) (.int .i64 id) rfl rfl (by kernel_rfl) (by kernel_rfl) (by kernel_rfl) (fun _ _ _ h => h) (by rfl) (fun w_ hw => by first | rfl | (go_simp; done) | (go_simp; rfl) | (go_simp; omega)) hHeld ?_
  simp only [Act.put, List.setIfInBounds_toArray, List.set_cons_zero, List.set_cons_succ]
  refine Cu.takeH 3 (some 39) (.pointer (some ⟨w2.heap.size, 35, none⟩)) rfl rfl (by kernel_rfl) (by kernel_rfl) (by kernel_rfl) (fun _ _ _ h => h) (by rfl) (fun w_ hw => by first | rfl | (go_simp; done) | (go_simp; rfl) | (go_simp; omega)) hHeld ?_
  simp only [Act.put, List.setIfInBounds_toArray, List.set_cons_zero, List.set_cons_succ]
  refine Cu.takeH 4 (some 40) (.string u.note) rfl rfl (by kernel_rfl) (by kernel_rfl) (by kernel_rfl) (fun _ _ _ h => h) (by rfl) (fun w_ hw => by have c : World.cell? _ ⟨w2.heap.size, 35, none⟩ = some (.string u.note) := (Ryb7_u.out.below hw Ryb7_u.out.lt).cell 35 (by omega); first | rfl | (go_simp; done) | (go_simp; rfl) | (go_simp; omega)) hHeld ?_
  simp only [Act.put, List.setIfInBounds_toArray, List.set_cons_zero, List.set_cons_succ]
  refine wpAnyH_ready (rs := [1]) (by kernel_rfl) (by simp) (AllReadyH.cons rfl (fun K hK => ?_) AllReadyH.nil)
  rw [if_pos (by rfl)]
  go_simp
  refine (HCp.out _ (Gyb7.out.trans (hHeld.mono Gyb7.out.size))).mono ?_
  rintro e ya ⟨⟨x1, x2, x3, rfl, hOS⟩, hbq⟩
  try go_wp2_with fail
  refine hK.out _ _ (hHeld.trans (hbq.mono hHeld.size)) (fun hH => ?_)
  clear hK K hHeld
  have hHeld := hH
  clear hH
  have HOS := hide hOS
  clear hOS hbq
  refine wpAnyH_ready (rs := [5]) (by kernel_rfl) (by simp) (AllReadyH.cons rfl (fun K hK => ?_) AllReadyH.nil)
  rw [if_pos (by rfl)]
  go_simp
  refine (H16.out x1 x2 x3 _ _ (Gyb7.out.trans (hHeld.mono Gyb7.out.size)) HOS.out).mono ?_
  rintro e yb8 ⟨⟨v, rfl⟩, hbq⟩
  try go_wp2_with fail
  refine hK.out _ _ (hHeld.trans (hbq.mono hHeld.size)) (fun hH => ?_)
  clear hK K hHeld
  have hHeld := hH
  clear hH
  clear HOS hbq
  refine ⟨by kernel_rfl, ?_⟩
  refine NoPanic.normal ?_
  have hb := hHeld
  clear hHeld hwd
  have Ryb8_c := hide (Ryb7_c.out.below hb Ryb7_c.out.lt)
  have Ryb8_s := hide (Ryb7_s.out.below hb Ryb7_s.out.lt)
  have Ryb8_u := hide (Ryb7_u.out.below hb Ryb7_u.out.lt)
  have Ryb8_m := hide (Ryb7_m.out.below hb Ryb7_m.out.lt)
  have Gyb8 := hide (Gyb7.out.trans (hb.mono Gyb7.out.size))
  clear hb
  go_upto_region 9 with fail
  refine wp_region_noPanic ?_
  refine wp_region_held_drew (S := fun wx => Below yb8.heap.size yb8 wx) (by kernel_rfl) ((Below.refl _ _).drew) (fun hHeld => ?_)
  generalize hwd : World.drew yb8 = wd at hHeld ⊢
  refine Cu.takeH 0 (some 42) (.agg (tabv c.v 164)) rfl rfl (by kernel_rfl) (by kernel_rfl) (by kernel_rfl) (fun _ _ _ h => h) (by rfl) (fun w_ hw => run_load_at w_ 26 _ rfl (w.heap.size) 0 (by rfl) _ 164 _ ((Ryb8_c.out.below hw Ryb8_c.out.lt).at_ 0 (by omega) (fun i hi => by rw [Nat.zero_add])) Tryz.underlying26 rfl infoCf) hHeld ?_
  simp only [Act.put, List.setIfInBounds_toArray, List.set_cons_zero, List.set_cons_succ]
  refine Cu.takeH 1 (some 43) (.agg (tabv s.v 115)) rfl rfl (by kernel_rfl) (by kernel_rfl) (by kernel_rfl) (fun _ _ _ h => h) (by rfl) (fun w_ hw => run_load_at w_ 32 _ rfl (w1.heap.size) 0 (by rfl) _ 115 _ ((Ryb8_s.out.below hw Ryb8_s.out.lt).at_ 0 (by omega) (fun i hi => by rw [Nat.zero_add])) Tryz.underlying32 rfl infoSt) hHeld ?_
  simp only [Act.put, List.setIfInBounds_toArray, List.set_cons_zero, List.set_cons_succ]
  refine wpAnyH_ready (rs := [2]) (by kernel_rfl) (by simp) (AllReadyH.cons rfl (fun K hK => ?_) AllReadyH.nil)
  rw [if_pos (by rfl)]
  go_simp
  refine (HCp.out _ (Gyb8.out.trans (hHeld.mono Gyb8.out.size))).mono ?_
  rintro e ya ⟨⟨x1, x2, x3, rfl, hOS⟩, hbq⟩
  try go_wp2_with fail
  refine hK.out _ _ (hHeld.trans (hbq.mono hHeld.size)) (fun hH => ?_)
  clear hK K hHeld
  have hHeld := hH
  clear hH
  have HOS := hide hOS
  clear hOS hbq
  refine wpAnyH_ready (rs := [3]) (by kernel_rfl) (by simp) (AllReadyH.cons rfl (fun K hK => ?_) AllReadyH.nil)
  rw [if_pos (by rfl)]
  go_simp
  refine (H17.out x1 x2 x3 _ _ (Gyb8.out.trans (hHeld.mono Gyb8.out.size)) HOS.out).mono ?_
  rintro e yb9 ⟨⟨v, rfl⟩, hbq⟩
  try go_wp2_with fail
  refine hK.out _ _ (hHeld.trans (hbq.mono hHeld.size)) (fun hH => ?_)
  clear hK K hHeld
  have hHeld := hH
  clear hH
  clear HOS hbq
  refine ⟨by kernel_rfl, ?_⟩
  refine NoPanic.normal ?_
  have hb := hHeld
  clear hHeld hwd
  have Ryb9_c := hide (Ryb8_c.out.below hb Ryb8_c.out.lt)
  have Ryb9_s := hide (Ryb8_s.out.below hb Ryb8_s.out.lt)
  have Ryb9_u := hide (Ryb8_u.out.below hb Ryb8_u.out.lt)
  have Ryb9_m := hide (Ryb8_m.out.below hb Ryb8_m.out.lt)
  have Gyb9 := hide (Gyb8.out.trans (hb.mono Gyb8.out.size))
  clear hb
  go_upto_region 10 with fail
  refine wp_region_noPanic ?_
  refine wp_region_held_drew (S := fun wx => Below yb9.heap.size yb9 wx) (by kernel_rfl) ((Below.refl _ _).drew) (fun hHeld => ?_)
  generalize hwd : World.drew yb9 = wd at hHeld ⊢
  refine Cu.takeH 0 (some 46) (.agg (tabv c.v 164)) rfl rfl (by kernel_rfl) (by kernel_rfl) (by kernel_rfl) (fun _ _ _ h => h) (by rfl) (fun w_ hw => run_load_at w_ 26 _ rfl (w.heap.size) 0 (by rfl) _ 164 _ ((Ryb9_c.out.below hw Ryb9_c.out.lt).at_ 0 (by omega) (fun i hi => by rw [Nat.zero_add])) Tryz.underlying26 rfl infoCf) hHeld ?_
  simp only [Act.put, List.setIfInBounds_toArray, List.set_cons_zero, List.set_cons_succ]
  refine Cu.takeH 1 (some 47) (.agg (tabv s.v 115)) rfl rfl (by kernel_rfl) (by kernel_rfl) (by kernel_rfl) (fun _ _ _ h => h) (by rfl) (fun w_ hw => run_load_at w_ 32 _ rfl (w1.heap.size) 0 (by rfl) _ 115 _ ((Ryb9_s.out.below hw Ryb9_s.out.lt).at_ 0 (by omega) (fun i hi => by rw [Nat.zero_add])) Tryz.underlying32 rfl infoSt) hHeld ?_
  simp only [Act.put, List.setIfInBounds_toArray, List.set_cons_zero, List.set_cons_succ]
  refine wpAnyH_ready (rs := [2]) (by kernel_rfl) (by simp) (AllReadyH.cons rfl (fun K hK => ?_) AllReadyH.nil)
  rw [if_pos (by rfl)]
  go_simp
  refine (HCp.out _ (Gyb9.out.trans (hHeld.mono Gyb9.out.size))).mono ?_
  rintro e ya ⟨⟨x1, x2, x3, rfl, hOS⟩, hbq⟩
  try go_wp2_with fail
  refine hK.out _ _ (hHeld.trans (hbq.mono hHeld.size)) (fun hH => ?_)
  clear hK K hHeld
  have hHeld := hH
  clear hH
  have HOS := hide hOS
  clear hOS hbq
  refine wpAnyH_ready (rs := [3]) (by kernel_rfl) (by simp) (AllReadyH.cons rfl (fun K hK => ?_) AllReadyH.nil)
  rw [if_pos (by rfl)]
  go_simp
  refine (H18.out x1 x2 x3 _ _ (Gyb9.out.trans (hHeld.mono Gyb9.out.size)) HOS.out).mono ?_
  rintro e yb10 ⟨⟨v, rfl⟩, hbq⟩
  try go_wp2_with fail
  refine hK.out _ _ (hHeld.trans (hbq.mono hHeld.size)) (fun hH => ?_)
  clear hK K hHeld
  have hHeld := hH
  clear hH
  clear HOS hbq
  refine ⟨by kernel_rfl, ?_⟩
  refine NoPanic.normal ?_
  have hb := hHeld
  clear hHeld hwd
  have Ryb10_c := hide (Ryb9_c.out.below hb Ryb9_c.out.lt)
  have Ryb10_s := hide (Ryb9_s.out.below hb Ryb9_s.out.lt)
  have Ryb10_u := hide (Ryb9_u.out.below hb Ryb9_u.out.lt)
  have Ryb10_m := hide (Ryb9_m.out.below hb Ryb9_m.out.lt)
  have Gyb10 := hide (Gyb9.out.trans (hb.mono Gyb9.out.size))
  clear hb
  go_upto_region 11 with fail
  refine wp_region_noPanic ?_
  refine wp_region_held_drew (S := fun wx => Below yb10.heap.size yb10 wx) (by kernel_rfl) ((Below.refl _ _).drew) (fun hHeld => ?_)
  generalize hwd : World.drew yb10 = wd at hHeld ⊢
  refine Cu.takeH 0 (some 50) (.agg (tabv s.v 115)) rfl rfl (by kernel_rfl) (by kernel_rfl) (by kernel_rfl) (fun _ _ _ h => h) (by rfl) (fun w_ hw => run_load_at w_ 32 _ rfl (w1.heap.size) 0 (by rfl) _ 115 _ ((Ryb10_s.out.below hw Ryb10_s.out.lt).at_ 0 (by omega) (fun i hi => by rw [Nat.zero_add])) Tryz.underlying32 rfl infoSt) hHeld ?_
  simp only [Act.put, List.setIfInBounds_toArray, List.set_cons_zero, List.set_cons_succ]
  refine Cu.takeH 2 (some 52) (.agg (tabv u.v 36)) rfl rfl (by kernel_rfl) (by kernel_rfl) (by kernel_rfl) (fun _ _ _ h => h) (by rfl) (fun w_ hw => run_load_at w_ 34 _ rfl (w2.heap.size) 0 (by rfl) _ 36 _ ((Ryb10_u.out.below hw Ryb10_u.out.lt).at_ 0 (by omega) (fun i hi => by rw [Nat.zero_add])) Tryz.underlying34 rfl infoU) hHeld ?_
  simp only [Act.put, List.setIfInBounds_toArray, List.set_cons_zero, List.set_cons_succ]
  refine wpAnyH_ready (rs := [1]) (by kernel_rfl) (by simp) (AllReadyH.cons rfl (fun K hK => ?_) AllReadyH.nil)
  rw [if_pos (by rfl)]
  go_simp
  refine (HCp.out _ (Gyb10.out.trans (hHeld.mono Gyb10.out.size))).mono ?_
  rintro e ya ⟨⟨x1, x2, x3, rfl, hOS⟩, hbq⟩
  try go_wp2_with fail
  refine hK.out _ _ (hHeld.trans (hbq.mono hHeld.size)) (fun hH => ?_)
  clear hK K hHeld
  have hHeld := hH
  clear hH
  have HOS := hide hOS
  clear hOS hbq
  refine wpAnyH_ready (rs := [3]) (by kernel_rfl) (by simp) (AllReadyH.cons rfl (fun K hK => ?_) AllReadyH.nil)
  rw [if_pos (by rfl)]
  go_simp
  refine (H19.out x1 x2 x3 _ _ (Gyb10.out.trans (hHeld.mono Gyb10.out.size)) HOS.out).mono ?_
  rintro e yb11 ⟨⟨v, rfl⟩, hbq⟩
  try go_wp2_with fail
  refine hK.out _ _ (hHeld.trans (hbq.mono hHeld.size)) (fun hH => ?_)
  clear hK K hHeld
  have hHeld := hH
  clear hH
  clear HOS hbq
  refine ⟨by kernel_rfl, ?_⟩
  refine NoPanic.normal ?_
  have hb := hHeld
  clear hHeld hwd
  have Ryb11_c := hide (Ryb10_c.out.below hb Ryb10_c.out.lt)
  have Ryb11_s := hide (Ryb10_s.out.below hb Ryb10_s.out.lt)
  have Ryb11_u := hide (Ryb10_u.out.below hb Ryb10_u.out.lt)
  have Ryb11_m := hide (Ryb10_m.out.below hb Ryb10_m.out.lt)
  have Gyb11 := hide (Gyb10.out.trans (hb.mono Gyb10.out.size))
  clear hb
  go_upto_region 12 with fail
  refine wp_region_noPanic ?_
  refine wp_region_held_drew (S := fun wx => Below yb11.heap.size yb11 wx) (by kernel_rfl) ((Below.refl _ _).drew) (fun hHeld => ?_)
  generalize hwd : World.drew yb11 = wd at hHeld ⊢
  refine Cu.takeH 0 (some 54) (.agg (tabv c.v 164)) rfl rfl (by kernel_rfl) (by kernel_rfl) (by kernel_rfl) (fun _ _ _ h => h) (by rfl) (fun w_ hw => run_load_at w_ 26 _ rfl (w.heap.size) 0 (by rfl) _ 164 _ ((Ryb11_c.out.below hw Ryb11_c.out.lt).at_ 0 (by omega) (fun i hi => by rw [Nat.zero_add])) Tryz.underlying26 rfl infoCf) hHeld ?_
  simp only [Act.put, List.setIfInBounds_toArray, List.set_cons_zero, List.set_cons_succ]
  refine Cu.takeH 1 (some 55) (.agg (tabv s.v 115)) rfl rfl (by kernel_rfl) (by kernel_rfl) (by kernel_rfl) (fun _ _ _ h => h) (by rfl) (fun w_ hw => run_load_at w_ 32 _ rfl (w1.heap.size) 0 (by rfl) _ 115 _ ((Ryb11_s.out.below hw Ryb11_s.out.lt).at_ 0 (by omega) (fun i hi => by rw [Nat.zero_add])) Tryz.underlying32 rfl infoSt) hHeld ?_
  simp only [Act.put, List.setIfInBounds_toArray, List.set_cons_zero, List.set_cons_succ]
  refine Cu.takeH 3 (some 57) (.agg (tabv m.v 70)) rfl rfl (by kernel_rfl) (by kernel_rfl) (by kernel_rfl) (fun _ _ _ h => h) (by rfl) (fun w_ hw => run_load_at w_ 36 _ rfl (w3.heap.size) 0 (by rfl) _ 70 _ ((Ryb11_m.out.below hw Ryb11_m.out.lt).at_ 0 (by omega) (fun i hi => by rw [Nat.zero_add])) Tryz.underlying36 rfl infoM) hHeld ?_
  simp only [Act.put, List.setIfInBounds_toArray, List.set_cons_zero, List.set_cons_succ]
  refine wpAnyH_ready (rs := [2]) (by kernel_rfl) (by simp) (AllReadyH.cons rfl (fun K hK => ?_) AllReadyH.nil)
  rw [if_pos (by rfl)]
  go_simp
  refine (HCp.out _ (Gyb11.out.trans (hHeld.mono Gyb11.out.size))).mono ?_
  rintro e ya ⟨⟨x1, x2, x3, rfl, hOS⟩, hbq⟩
  try go_wp2_with fail
  refine hK.out _ _ (hHeld.trans (hbq.mono hHeld.size)) (fun hH => ?_)
  clear hK K hHeld
  have hHeld := hH
  clear hH
  have HOS := hide hOS
  clear hOS hbq
  refine wpAnyH_ready (rs := [4]) (by kernel_rfl) (by simp) (AllReadyH.cons rfl (fun K hK => ?_) AllReadyH.nil)
  rw [if_pos (by rfl)]
  go_simp
  refine (H20.out x1 x2 x3 _ _ (Gyb11.out.trans (hHeld.mono Gyb11.out.size)) HOS.out).mono ?_
  rintro e yb12 ⟨⟨v, rfl⟩, hbq⟩
  try go_wp2_with fail
  refine hK.out _ _ (hHeld.trans (hbq.mono hHeld.size)) (fun hH => ?_)
  clear hK K hHeld
  have hHeld := hH
  clear hH
  clear HOS hbq
  refine ⟨by kernel_rfl, ?_⟩
  refine NoPanic.normal ?_
  have hb := hHeld
  clear hHeld hwd
  have Ryb12_c := hide (Ryb11_c.out.below hb Ryb11_c.out.lt)
  have Ryb12_s := hide (Ryb11_s.out.below hb Ryb11_s.out.lt)
  have Ryb12_u := hide (Ryb11_u.out.below hb Ryb11_u.out.lt)
  have Ryb12_m := hide (Ryb11_m.out.below hb Ryb11_m.out.lt)
  have Gyb12 := hide (Gyb11.out.trans (hb.mono Gyb11.out.size))
  clear hb
  go_wp2_with (first | refine wpW_load_at 26 _ rfl (w.heap.size) (0) (by rfl) (by rfl) _ 164 _ (Ryb12_c.out.at_ 0 (by omega) (fun i hi => by rw [Nat.zero_add])) Tryz.underlying26 rfl infoCf ?_ | fail)
  refine (H21.out _ Gyb12.out).mono ?_
  rintro e y8 ⟨rfl, hb⟩
  have Ry8_c := hide (Ryb12_c.out.below hb Ryb12_c.out.lt)
  have Ry8_s := hide (Ryb12_s.out.below hb Ryb12_s.out.lt)
  have Ry8_u := hide (Ryb12_u.out.below hb Ryb12_u.out.lt)
  have Ry8_m := hide (Ryb12_m.out.below hb Ryb12_m.out.lt)
  have Gy8 := hide (Gyb12.out.trans (hb.mono Gyb12.out.size))
  clear hb
  go_upto_region 14 with fail
  refine wp_region_noPanic ?_
  refine wp_region_held_drew (S := fun wx => Below y8.heap.size y8 wx) (by kernel_rfl) ((Below.refl _ _).drew) (fun hHeld => ?_)
  generalize hwd : World.drew y8 = wd at hHeld ⊢
  refine Cu.takeH 0 (some 62) (.agg (tabv s.v 115)) rfl rfl (by kernel_rfl) (by kernel_rfl) (by kernel_rfl) (fun _ _ _ h => h) (by rfl) (fun w_ hw => run_load_at w_ 32 _ rfl (w1.heap.size) 0 (by rfl) _ 115 _ ((Ry8_s.out.below hw Ry8_s.out.lt).at_ 0 (by omega) (fun i hi => by rw [Nat.zero_add])) Tryz.underlying32 rfl infoSt) hHeld ?_
  simp only [Act.put, List.setIfInBounds_toArray, List.set_cons_zero, List.set_cons_succ]
  refine Cu.takeH 2 (some 64) (.agg (tabv m.v 70)) rfl rfl (by kernel_rfl) (by kernel_rfl) (by kernel_rfl) (fun _ _ _ h => h) (by rfl) (fun w_ hw => run_load_at w_ 36 _ rfl (w3.heap.size) 0 (by rfl) _ 70 _ ((Ry8_m.out.below hw Ry8_m.out.lt).at_ 0 (by omega) (fun i hi => by rw [Nat.zero_add])) Tryz.underlying36 rfl infoM) hHeld ?_
  simp only [Act.put, List.setIfInBounds_toArray, List.set_cons_zero, List.set_cons_succ]
  refine wpAnyH_ready (rs := [1]) (by kernel_rfl) (by simp) (AllReadyH.cons rfl (fun K hK => ?_) AllReadyH.nil)
  rw [if_pos (by rfl)]
  go_simp
  refine (HCp.out _ (Gy8.out.trans (hHeld.mono Gy8.out.size))).mono ?_
  rintro e ya ⟨⟨x1, x2, x3, rfl, hOS⟩, hbq⟩
  try go_wp2_with fail
  refine hK.out _ _ (hHeld.trans (hbq.mono hHeld.size)) (fun hH => ?_)
  clear hK K hHeld
  have hHeld := hH
  clear hH
  have HOS := hide hOS
  clear hOS hbq
  refine wpAnyH_ready (rs := [3]) (by kernel_rfl) (by simp) (AllReadyH.cons rfl (fun K hK => ?_) AllReadyH.nil)
  rw [if_pos (by rfl)]
  go_simp
  refine (H22.out x1 x2 x3 _ _ (Gy8.out.trans (hHeld.mono Gy8.out.size)) HOS.out).mono ?_
  rintro e yb14 ⟨⟨v, rfl⟩, hbq⟩
  try go_wp2_with fail
  refine hK.out _ _ (hHeld.trans (hbq.mono hHeld.size)) (fun hH => ?_)
  clear hK K hHeld
  have hHeld := hH
  clear hH
  clear HOS hbq
  refine ⟨by kernel_rfl, ?_⟩
  refine NoPanic.normal ?_
  have hb := hHeld
  clear hHeld hwd
  have Ryb14_c := hide (Ry8_c.out.below hb Ry8_c.out.lt)
  have Ryb14_s := hide (Ry8_s.out.below hb Ry8_s.out.lt)
  have Ryb14_u := hide (Ry8_u.out.below hb Ry8_u.out.lt)
  have Ryb14_m := hide (Ry8_m.out.below hb Ry8_m.out.lt)
  have Gyb14 := hide (Gy8.out.trans (hb.mono Gy8.out.size))
  clear hb
  go_wp2_with (first | refine wpW_load_at 32 _ rfl (w1.heap.size) (0) (by rfl) (by rfl) _ 115 _ (Ryb14_s.out.at_ 0 (by omega) (fun i hi => by rw [Nat.zero_add])) Tryz.underlying32 rfl infoSt ?_ | fail)
  refine (HCp.out _ Gyb14.out).mono ?_
  rintro e y9 ⟨⟨x1, x2, x3, rfl, hOS⟩, hb⟩
  have HOS := hide hOS
  clear hOS
  have Ry9_c := hide (Ryb14_c.out.below hb Ryb14_c.out.lt)
  have Ry9_s := hide (Ryb14_s.out.below hb Ryb14_s.out.lt)
  have Ry9_u := hide (Ryb14_u.out.below hb Ryb14_u.out.lt)
  have Ry9_m := hide (Ryb14_m.out.below hb Ryb14_m.out.lt)
  have Gy9 := hide (Gyb14.out.trans (hb.mono Gyb14.out.size))
  clear hb
  go_wp2_with (fail)
  refine (H23.out x1 x2 x3 _ _ Gy9.out HOS.out).mono ?_
  rintro e y10 ⟨⟨v, rfl⟩, hb⟩
  clear HOS
  have Ry10_c := hide (Ry9_c.out.below hb Ry9_c.out.lt)
  have Ry10_s := hide (Ry9_s.out.below hb Ry9_s.out.lt)
  have Ry10_u := hide (Ry9_u.out.below hb Ry9_u.out.lt)
  have Ry10_m := hide (Ry9_m.out.below hb Ry9_m.out.lt)
  have Gy10 := hide (Gy9.out.trans (hb.mono Gy9.out.size))
  clear hb
  go_wp2_with fail
  go_ret
  exact ⟨rfl, Gy10.out⟩
end Go.Proofs.YtmmcoedgoekhgaaGreatDoor
