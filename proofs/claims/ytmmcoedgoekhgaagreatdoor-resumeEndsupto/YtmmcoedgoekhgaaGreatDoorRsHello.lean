import Derived.Test.YtmmcoedgoekhgaaGreatDoorPLaw
import Derived.Test.YtmmcoedgoekhgaaGreatDoorDMsg
import Derived.Deep.CutRange
import Derived.Test.YtmmcoedgoekhgaaGreatDoorRsSmall
import Derived.Test.YtmmcoedgoekhgaaGreatDoorDClone
import Derived.Test.YtmmcoedgoekhgaaGreatDoorDSgText
import Derived.Test.YtmmcoedgoekhgaaGreatDoorGSortM
/-
  min and max as numbers.
-/
namespace Go.Proofs.YtmmcoedgoekhgaaGreatDoor
open Go.RowKit S
set_option linter.unusedVariables false
set_option linter.unusedSimpArgs false
end Go.Proofs.YtmmcoedgoekhgaaGreatDoor
/-
  ownText of the code (printed by gen_d11.py).
-/
namespace Go.Proofs.YtmmcoedgoekhgaaGreatDoor
open Go.RowKit S
set_option linter.unusedVariables false
set_option linter.unusedSimpArgs false
def owF (s : St) (mine others : List Upd) (a b : Int) : FA := foldA s.bo s.bp mine others a b
end Go.Proofs.YtmmcoedgoekhgaaGreatDoor
/-
  Came of the code (printed by gen_d18.py).
-/
namespace Go.Proofs.YtmmcoedgoekhgaaGreatDoor
open Go.RowKit S
set_option linter.unusedVariables false
set_option linter.unusedSimpArgs false
def dropAd (ad : Option Addr) (cap k : Nat) : Option Addr := if cap = k then ad else ad.map (·.add (k * 36))
theorem Upds.drop {w : World} {ad : Option Addr} {l : List Upd} (h : Upds w ad l) (cap k : Nat) (hc : l.length ≤ cap) : Upds w (dropAd ad cap k) (l.drop k) := by
  by_cases hk : l.length ≤ k
  · exact .inl (List.drop_of_length_le hk)
  · rcases h with rfl | ⟨b, o, rfl, h2, h3⟩
    · exact .inl (by simp)
    · refine .inr ⟨b, o + k * 36, ?_, h2, fun i s hs => ?_⟩
      · unfold dropAd
        rw [if_neg (by omega)]
        simp [Addr.add]
      · rw [List.getElem?_drop] at hs
        have := h3 _ s hs
        rw [show o + k * 36 + i * 36 = o + (k + i) * 36 by omega]
        exact this
theorem Upds.none {w : World} {ad : Option Addr} {l : List Upd} (h : Upds w ad l) : ad = .none → l = [] := by
  rintro rfl
  rcases h with rfl | ⟨b, o, h1, _⟩
  · rfl
  · cases h1
def cameR (i : Int) (x : Sl) (sg : Nat → UInt8) : Rc := ⟨3, Upd.zero, x, i, 0, 0, sg, fun _ => 0, fun _ => 0, 0⟩
/-- What a region that ends in the store of its record holds all along. -/
structure SCm (w : World) (bm br : Nat) (m : Msg) (wx : World) : Prop where
  m : Has wx bm 36 m.v 70
  r : ∃ f, Has wx br 42 f 138
  b : Below w.heap.size w wx
theorem SCm.step {w : World} {bm br : Nat} {m : Msg} {wx wy : World} (h : SCm w bm br m wx) (hb : Below wx.heap.size wx wy) : SCm w bm br m wy :=
  ⟨h.m.below hb h.m.lt, h.r.imp fun _ k => k.below hb k.lt, h.b.trans (hb.mono h.b.size)⟩
theorem SCm.store {w : World} {bm br : Nat} {m : Msg} {wx : World} (h : SCm w bm br m wx) (M : Rc) (h2 : bm ≠ br) (h3 : w.heap.size ≤ br) : SCm w bm br m (wx.setRow br (tabv M.v 138)) ∧ Has (wx.setRow br (tabv M.v 138)) br 42 M.v 138 := by
  obtain ⟨f, hf⟩ := h.r
  exact ⟨⟨h.m.row_other _ _ h2, ⟨_, hf.row _ M.v rfl⟩, below_setRow h.b h3 _⟩, hf.row _ M.v rfl⟩
/-- Came's first refusals. -/
def cameE (s : St) (m : Msg) : Int := bif deadB s then 220 else bif (m.kind != 4) then 160 else bif ((m.idx != wrap64 (s.loc + 1)) || decide (s.loc > 281474976710653)) then 90 else bif ((s.ho == s.ao) && ((s.peers.n : Int) == s.ap)) then 8 else 0
/-- What Came answers. -/
structure CameP (c : Cf) (s : St) (m : Msg) (mine others : List Upd) (B : Nat) (w' : World) (R : Rc) (E : Int) : Prop where
  no : cameE s m ≠ 0 → R = Rc.zero ∧ E = cameE s m
  go : cameE s m = 0 → ∃ tb tc, TX (owF s mine others s.ho (s.peers.n : Int)) s.side m.idx (sha (listOf (secretA c.seed m.idx).1)) (owF s mine others s.ho (s.peers.n : Int)).x (owF s mine others s.ho (s.peers.n : Int)).y (owF s mine others s.ho (s.peers.n : Int)).l tb tc ∧ ((tc ≠ 0 ∨ sameH m.hash (mac c.pkey tb.data.toList) = false) → R = Rc.zero ∧ E = 110) ∧ (tc = 0 → sameH m.hash (mac c.pkey tb.data.toList) = true → ∃ x : Sl, R = cameR m.idx x m.hash ∧ E = 0 ∧ OwnU B w' x.v (others.drop (withinN s.ap s.peers.n)))
end Go.Proofs.YtmmcoedgoekhgaaGreatDoor
/-
  resume: Hello, between (printed by gen_e2.py).
-/
namespace Go.Proofs.YtmmcoedgoekhgaaGreatDoor
open Go.RowKit S
set_option linter.unusedVariables false
set_option linter.unusedSimpArgs false
def helM (x n : Int) (h : Nat → UInt8) : Msg := ⟨6, 0, 0, x, n, z32, h, nilB⟩
def helloA (s : St) (ls : List Slot) : Msg := helM (wrap64 (s.loc + 1)) s.ack (bif decide (s.ack > 0) then (getA ls (s.ack - 1)).1 else z32)
set_option maxRecDepth 100000 in
theorem builtHM (x n : Int) : Tryz.prog.built 36 [(0, .int .i64 6), (3, .int .i64 x), (4, .int .i64 n)] = some (tabv (helM x n z32).v 70) := by kernel_rfl
theorem splice_mSec (x n : Int) (a b : Nat → UInt8) (i : Nat) (hi : i < 70) : splice (helM x n a).v 37 (bv b) 32 i = (helM x n b).v i := by
  unfold splice
  by_cases h : 37 ≤ i ∧ i < 37 + 32
  · rw [if_pos (by omega)]
    have := Msg.v_sec (helM x n b) (i - 37) (by omega)
    rw [show 37 + (i - 37) = i by omega] at this
    exact this.symm
  · rw [if_neg (by omega)]
    unfold Msg.v helM
    by_cases h2 : i < 37
    · simp only [show (i < 69) = True from eq_true (by omega)]
      by_cases k5 : i < 5
      · have : i = 0 ∨ i = 1 ∨ i = 2 ∨ i = 3 ∨ i = 4 := by omega
        rcases this with rfl | rfl | rfl | rfl | rfl <;> rfl
      · simp only [show (i = 0) = False from eq_false (by omega), show (i = 1) = False from eq_false (by omega), show (i = 2) = False from eq_false (by omega), show (i = 3) = False from eq_false (by omega), show (i = 4) = False from eq_false (by omega), show (i < 37) = True from eq_true h2, if_false, if_true]
    · have : i = 69 := by omega
      subst this
      rfl
set_option maxRecDepth 100000 in
set_option maxHeartbeats 40000000 in
theorem hello_any (c : Cf) (s : St) (ls : List Slot) (hn : ls.length = s.shelf.n) (hx : s.ack ≤ 9223372036854775807) (w : World) (hG : Glob num w) (hS : Slots w s.shelf.ad ls) : Calls Tryz.prog 33 #[.agg (tabv c.v 164), .agg (tabv s.v 115)] w fun e w' => e = .returned (.agg (tabv (helloA s ls).v 70)) ∧ Below w.heap.size w w' := by
  obtain ⟨w1, hW1⟩ : ∃ wX, w.alloc (.cells (tabv c.v 164) 26) = wX := ⟨_, rfl⟩
  have rc : Has w1 w.heap.size 26 c.v 164 := by rw [← hW1]; exact Has.new w 26 c.v 164 _ rfl
  have bb : Below w.heap.size w w1 := by rw [← hW1]; exact (Below.refl w.heap.size w).alloc (Nat.le_refl _) _
  have gb : Below w.heap.size w w1 := bb
  clear bb
  obtain ⟨w2, hW2⟩ : ∃ wX, w1.alloc (.cells (tabv s.v 115) 32) = wX := ⟨_, rfl⟩
  have rs : Has w2 w1.heap.size 32 s.v 115 := by rw [← hW2]; exact Has.new w1 32 s.v 115 _ rfl
  have bb : Below w1.heap.size w1 w2 := by rw [← hW2]; exact (Below.refl w1.heap.size w1).alloc (Nat.le_refl _) _
  have rc := rc.below bb rc.lt
  have gb : Below w.heap.size w w2 := gb.trans (bb.mono gb.size)
  clear bb
  obtain ⟨w3, hW3⟩ : ∃ wX, w2.alloc (.cells (tabv Msg.zero.v 70) 36) = wX := ⟨_, rfl⟩
  have rr : Has w3 w2.heap.size 36 Msg.zero.v 70 := by rw [← hW3]; exact Has.new w2 36 Msg.zero.v 70 _ rfl
  have bb : Below w2.heap.size w2 w3 := by rw [← hW3]; exact (Below.refl w2.heap.size w2).alloc (Nat.le_refl _) _
  have rc := rc.below bb rc.lt
  have rs := rs.below bb rs.lt
  have gb : Below w.heap.size w w3 := gb.trans (bb.mono gb.size)
  clear bb
  have Rb_c := hide rc
  have Rb_s := hide rs
  have Rb_r := hide rr
  have GB := hide gb
  clear gb rc rs rr
  have LT1 : w.heap.size < w1.heap.size := (by rw [← hW1, size_alloc]; omega)
  have LT2 : w1.heap.size < w2.heap.size := (by rw [← hW2, size_alloc]; omega)
  rw [← zero70] at hW3
  have HGt := hide (fun wx (hb : Below w.heap.size w wx) => get_any s.shelf.ad s.shelf.n s.shelf.c ls hn (s.ack - 1) wx (hG.up hb) (hS.below hb))
  have hsh : ∀ wx, Has wx (w1.heap.size) 32 s.v 115 → wx.cell? ⟨w1.heap.size, 112, none⟩ = some (.slice s.shelf.ad s.shelf.n s.shelf.c) := fun wx h => h.cell 112 (by omega)
  replace hsh := hide hsh
  unfold helloA
  generalize getA ls (s.ack - 1) = GA at HGt ⊢
  obtain ⟨G1, G2⟩ := GA
  have hs6 : ∀ wx, Has wx (w1.heap.size) 32 s.v 115 → wx.cell? ⟨w1.heap.size, 6, none⟩ = some (.int .i64 s.loc) := fun wx h => h.cell 6 (by omega)
  generalize s.loc = lo at hs6 ⊢
  replace hs6 := hide hs6
  have hs8 : ∀ wx, Has wx (w1.heap.size) 32 s.v 115 → wx.cell? ⟨w1.heap.size, 8, none⟩ = some (.int .i64 s.ack) := fun wx h => h.cell 8 (by omega)
  generalize s.ack = ak at hs8 HGt hx ⊢
  replace hs8 := hide hs8
  clear hn hG hS
  go_enter Tryz.func33, Tryz.ntmps33
  have z0_s6 : w3.cell? ⟨w1.heap.size, 6, none⟩ = some (.int .i64 lo) := hs6.out _ Rb_s.out
  have z0_s8 : w3.cell? ⟨w1.heap.size, 8, none⟩ = some (.int .i64 ak) := hs8.out _ Rb_s.out
  obtain ⟨V1, V2, hV1, rV1, hV2, rV2, hb, _⟩ := newM w3 (helM (wrap64 (lo + 1)) ak z32)
  have RV1 := hide rV1
  have RV2 := hide rV2
  clear rV1 rV2
  have RV2_c := hide (Rb_c.out.below hb Rb_c.out.lt)
  have RV2_s := hide (Rb_s.out.below hb Rb_s.out.lt)
  have RV2_r := hide (Rb_r.out.below hb Rb_r.out.lt)
  have GV2 := hide (GB.out.trans (hb.mono GB.out.size))
  clear hb
  go_upto_region 2 with (first | (rw [hV1]) | refine wpW_build (by rfl) 36 #[(0, .const (.int .i64 6)), (3, .tmp 8), (4, .tmp 10)] rfl [(0, .int .i64 6), (3, .int .i64 (wrap64 (lo + 1))), (4, .int .i64 ak)] (by first | rfl | (simp [Act.eval, Act.put]; done)) _ (builtHM _ _) ?_ | (refine wpList_storeM rfl _ _ rfl rfl w3.heap.size (helM (wrap64 (lo + 1)) ak z32) rfl rfl _ RV1.out ?_; rw [hV2]) | fail)
  try rw [hV2]
  clear z0_s6 z0_s8
  have z0_s8 : V2.cell? ⟨w1.heap.size, 8, none⟩ = some (.int .i64 ak) := hs8.out _ RV2_s.out
  cases q : decide (ak > 0) with
  | false =>
    go_upto_region 4 with fail
    go_wp2_with (first | refine wpW_load_at 36 _ rfl (w3.heap.size) (0) (by rfl) (by rfl) _ 70 _ (RV2.out.at_ 0 (by omega) (fun i hi => by rw [Nat.zero_add])) Tryz.underlying36 rfl infoM ?_ | refine wpList_storeM rfl _ _ rfl rfl w2.heap.size (helM (wrap64 (lo + 1)) ak z32) rfl rfl _ RV2_r.out ?_ | fail)
    (try simp only [Exit.inBlock, Exit.then])
    exact bodyPost_ret (results_cell_row rfl _ _ w2.heap.size 36 _ (0, 0) _ rfl (RV2_r.out.row _ (Msg.v (helM (wrap64 (lo + 1)) ak z32)) rfl) Tryz.underlying36 rfl (by rw [tabv_size]; exact infoM)) rfl ⟨by first | rfl | (simp only [*]; rfl) | (simp [*]; done), below_setRow GV2.out (by omega) _⟩
  | true =>
    have h0 : ak > 0 := by simpa using q
    have zsh : V2.cell? ⟨w1.heap.size, 112, none⟩ = some (.slice s.shelf.ad s.shelf.n s.shelf.c) := hsh.out _ RV2_s.out
    go_wp2_with (fail)
    refine (HGt.out _ GV2.out).mono ?_
    rintro e y1 ⟨rfl, hb⟩
    clear z0_s8 zsh
    have Ry1_c := hide (RV2_c.out.below hb RV2_c.out.lt)
    have Ry1_s := hide (RV2_s.out.below hb RV2_s.out.lt)
    have Ry1_r := hide (RV2_r.out.below hb RV2_r.out.lt)
    have Ry1_m := hide (RV2.out.below hb RV2.out.lt)
    have Gy1 := hide (GV2.out.trans (hb.mono GV2.out.size))
    clear hb
    obtain ⟨v4, hv4⟩ : ∃ x, y1.setRow w3.heap.size (tabv (helM (wrap64 (lo + 1)) ak G1).v 70) = x := ⟨_, rfl⟩
    have S4 := hide (show Has v4 w3.heap.size 36 (Msg.v (helM (wrap64 (lo + 1)) ak G1)) 70 by rw [← hv4]; exact Ry1_m.out.row _ _ rfl)
    have W3L : w2.heap.size < w3.heap.size := by rw [← hW3, size_alloc]; omega
    have R4 := hide (show Has v4 w2.heap.size 36 Msg.zero.v 70 by rw [← hv4]; exact Ry1_r.out.row_other _ _ (by omega))
    have B4 := hide (show Below w.heap.size w v4 by rw [← hv4]; exact below_setRow Gy1.out (by omega) _)
    go_upto_region 4 with (first | (refine wpList_store_part rfl 23 _ _ rfl rfl w3.heap.size 37 (bv G1) 32 rfl rfl 36 _ 70 Ry1_m.out (by omega) info26 (fun i _ => rfl) (helM (wrap64 (lo + 1)) ak G1).v (fun i hi => splice_mSec _ _ _ _ i hi) ?_; rw [hv4]) | fail)
    try rw [hv4]
    go_wp2_with (first | refine wpW_load_at 36 _ rfl (w3.heap.size) (0) (by rfl) (by rfl) _ 70 _ (S4.out.at_ 0 (by omega) (fun i hi => by rw [Nat.zero_add])) Tryz.underlying36 rfl infoM ?_ | refine wpList_storeM rfl _ _ rfl rfl w2.heap.size (helM (wrap64 (lo + 1)) ak G1) rfl rfl _ R4.out ?_ | fail)
    (try simp only [Exit.inBlock, Exit.then])
    exact bodyPost_ret (results_cell_row rfl _ _ w2.heap.size 36 _ (0, 0) _ rfl (R4.out.row _ (Msg.v (helM (wrap64 (lo + 1)) ak G1)) rfl) Tryz.underlying36 rfl (by rw [tabv_size]; exact infoM)) rfl ⟨by first | rfl | (simp only [*]; rfl) | (simp [*]; done), below_setRow B4.out (by omega) _⟩
/-- The updates with the numbers from one to another, as between tells them. -/
def btwHi (b : Int) (n : Nat) : Nat := min b.toNat n
def btwLo (a b : Int) (n : Nat) : Nat := min a.toNat (btwHi b n)
theorem sliceLH (w : World) (ad : Option Addr) (n cap k h : Nat) (hk : k ≤ h) (hh : h ≤ cap) : (Instr.sliceAt 27 (.slice ad n cap) (some (.int .i64 (k : Int))) (some (.int .i64 (h : Int))) none).run Tryz.prog w = .ok (.slice (dropAd ad cap k) (h - k) (cap - k)) w := by
  have e := run_sliceAt_slice (P := Tryz.prog) w 27 (.slice ad n cap) (some (.int .i64 (k : Int))) (some (.int .i64 (h : Int))) none elU
  have e2 := run_slice_lh (P := Tryz.prog) w 27 ad n cap elU .i64 .i64 (k : Int) (h : Int) (by omega) (by omega) (by omega)
  rw [e, e2, sizeU]
  simp only [Result.andThen, sliced, dropAd, Int.toNat_natCast]
set_option maxRecDepth 100000 in
set_option maxHeartbeats 40000000 in
theorem between_any (ad : Option Addr) (n c : Nat) (hc : n ≤ c) (a b : Int) (w : World) : Calls Tryz.prog 82 #[.slice ad n c, .int .i64 a, .int .i64 b] w fun e w' => e = .returned (.slice (dropAd ad c (btwLo a b n)) (btwHi b n - btwLo a b n) (c - btwLo a b n)) ∧ w = w' := by
  have h1 : min (max b 0) (n : Int) = ((btwHi b n : Nat) : Int) := by unfold btwHi; omega
  have h2 : min (max a 0) ((btwHi b n : Nat) : Int) = ((btwLo a b n : Nat) : Int) := by unfold btwLo; omega
  have hk : btwLo a b n ≤ btwHi b n := by unfold btwLo; omega
  have hh : btwHi b n ≤ n := by unfold btwHi; omega
  have SK := sliceLH w ad n c (btwLo a b n) (btwHi b n) hk (by omega)
  generalize dropAd ad c (btwLo a b n) = DA at SK ⊢
  generalize btwHi b n - btwLo a b n = cn at SK ⊢
  generalize c - btwLo a b n = cc at SK ⊢
  clear hk hh hc
  generalize btwLo a b n = lo at SK h2
  generalize btwHi b n = hi at SK h1 h2
  go_enter Tryz.func82, Tryz.ntmps82
  go_wp2
  go_ret
  exact ⟨rfl, rfl⟩
end Go.Proofs.YtmmcoedgoekhgaaGreatDoor
