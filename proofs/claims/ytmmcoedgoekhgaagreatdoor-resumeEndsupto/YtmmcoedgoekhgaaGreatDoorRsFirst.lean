/-
  The document's Start; first of resume's statements (printed by gen_e6.py).
-/
import Derived.Test.YtmmcoedgoekhgaaGreatDoorRsPt
import Derived.Test.YtmmcoedgoekhgaaGreatDoorRsSame
import Derived.Test.YtmmcoedgoekhgaaGreatDoorDFixed
import Derived.Test.YtmmcoedgoekhgaaGreatDoorSNear
import Derived.Deep.CutRange
namespace Go.Proofs.YtmmcoedgoekhgaaGreatDoor
open Go.RowKit S
set_option linter.unusedVariables false
set_option linter.unusedSimpArgs false
def rstartA (c : Cf) : St × Int := bif (decide (c.side < 0) || (decide (c.side > 1) || (decide (c.cap < 1) || (decide (c.cap > 1152921504606846976) || (decide (c.ours < 0) || decide (c.ours > c.cap)))))) then (St.zero, 1) else (startS c.side c.cap c.ours (c.cap - c.ours) c.p0 c.p1, 0)
set_option maxRecDepth 100000 in
set_option maxHeartbeats 40000000 in
theorem rstart_any (c : Cf) (w : World) : Calls Tryz.prog 26 #[.agg (tabv c.v 164)] w fun e w' => e = .returned (.tuple #[.agg (tabv (rstartA c).1.v 115), .int .i64 (rstartA c).2]) ∧ Below w.heap.size w w' := by
  obtain ⟨w1, hW1⟩ : ∃ wX, w.alloc (.cells (tabv c.v 164) 26) = wX := ⟨_, rfl⟩
  have rc : Has w1 w.heap.size 26 c.v 164 := by rw [← hW1]; exact Has.new w 26 c.v 164 _ rfl
  have bb : Below w.heap.size w w1 := by rw [← hW1]; exact (Below.refl w.heap.size w).alloc (Nat.le_refl _) _
  have gb : Below w.heap.size w w1 := bb
  clear bb
  obtain ⟨w2, hW2⟩ : ∃ wX, w1.alloc (.cells (tabv St.zero.v 115) 32) = wX := ⟨_, rfl⟩
  have rr : Has w2 w1.heap.size 32 St.zero.v 115 := by rw [← hW2]; exact Has.new w1 32 St.zero.v 115 _ rfl
  have bb : Below w1.heap.size w1 w2 := by rw [← hW2]; exact (Below.refl w1.heap.size w1).alloc (Nat.le_refl _) _
  have rc := rc.below bb rc.lt
  have gb : Below w.heap.size w w2 := gb.trans (bb.mono gb.size)
  clear bb
  have Rb_c := hide rc
  have Rb_r := hide rr
  have GB := hide gb
  clear gb rc rr
  have LB : w.heap.size ≤ w1.heap.size := by rw [← hW1, size_alloc]; omega
  rw [← zeroSt] at hW2
  have h2 : ∀ wx, Has wx w.heap.size 26 c.v 164 → At wx w.heap.size 99 (twoH c.p0 c.p1) 64 := fun wx h => h.at_ 99 (by omega) (fun i hi => by
      unfold twoH
      by_cases k : i < 32
      · rw [if_pos k]; exact c.v_p0 i k
      · rw [if_neg k]; have := c.v_p1 (i - 32) (by omega); rw [show 131 + (i - 32) = 99 + i by omega] at this; exact this)
  unfold rstartA
  generalize c.p0 = p0 at h2 ⊢
  generalize c.p1 = p1 at h2 ⊢
  replace h2 := hide h2
  have hc0 : ∀ wx, Has wx (w.heap.size) 26 c.v 164 → wx.cell? ⟨w.heap.size, 0, none⟩ = some (.int .i64 c.side) := fun wx h => h.cell 0 (by omega)
  generalize c.side = sd at hc0 ⊢
  replace hc0 := hide hc0
  have hc1 : ∀ wx, Has wx (w.heap.size) 26 c.v 164 → wx.cell? ⟨w.heap.size, 1, none⟩ = some (.int .i64 c.cap) := fun wx h => h.cell 1 (by omega)
  generalize c.cap = cp at hc1 ⊢
  replace hc1 := hide hc1
  have hc2 : ∀ wx, Has wx (w.heap.size) 26 c.v 164 → wx.cell? ⟨w.heap.size, 2, none⟩ = some (.int .i64 c.ours) := fun wx h => h.cell 2 (by omega)
  generalize c.ours = ou at hc2 ⊢
  replace hc2 := hide hc2
  go_enter Tryz.func26, Tryz.ntmps26
  have z0_c0 : w2.cell? ⟨w.heap.size, 0, none⟩ = some (.int .i64 sd) := hc0.out _ Rb_c.out
  have z0_c1 : w2.cell? ⟨w.heap.size, 1, none⟩ = some (.int .i64 cp) := hc1.out _ Rb_c.out
  have z0_c2 : w2.cell? ⟨w.heap.size, 2, none⟩ = some (.int .i64 ou) := hc2.out _ Rb_c.out
  cases q1 : decide (sd < 0) with
  | true =>
    go_upto_region 2 with fail
    go_wp2_with (first | refine wpW_build (by rfl) 32 #[] rfl [] (by first | rfl | (simp [Act.eval, Act.put]; done)) _ builtSZ ?_ | refine wpList_storeSt rfl _ _ rfl rfl w1.heap.size St.zero rfl rfl _ Rb_r.out ?_ | fail)
    (try simp only [Exit.inBlock, Exit.then])
    exact bodyPost_ret (resSt _ w1.heap.size _ _ (.int .i64 1) 2 3 (Rb_r.out.row _ (St.v St.zero) rfl) rfl rfl _ rfl) rfl ⟨by first | rfl | (simp only [*]; rfl) | (simp [*]; done), below_setRow GB.out LB _⟩
  | false =>
    cases q2 : decide (sd > 1) with
    | true =>
      go_upto_region 2 with fail
      go_wp2_with (first | refine wpW_build (by rfl) 32 #[] rfl [] (by first | rfl | (simp [Act.eval, Act.put]; done)) _ builtSZ ?_ | refine wpList_storeSt rfl _ _ rfl rfl w1.heap.size St.zero rfl rfl _ Rb_r.out ?_ | fail)
      (try simp only [Exit.inBlock, Exit.then])
      exact bodyPost_ret (resSt _ w1.heap.size _ _ (.int .i64 1) 2 3 (Rb_r.out.row _ (St.v St.zero) rfl) rfl rfl _ rfl) rfl ⟨by first | rfl | (simp only [*]; rfl) | (simp [*]; done), below_setRow GB.out LB _⟩
    | false =>
      cases q3 : decide (cp < 1) with
      | true =>
        go_upto_region 2 with fail
        go_wp2_with (first | refine wpW_build (by rfl) 32 #[] rfl [] (by first | rfl | (simp [Act.eval, Act.put]; done)) _ builtSZ ?_ | refine wpList_storeSt rfl _ _ rfl rfl w1.heap.size St.zero rfl rfl _ Rb_r.out ?_ | fail)
        (try simp only [Exit.inBlock, Exit.then])
        exact bodyPost_ret (resSt _ w1.heap.size _ _ (.int .i64 1) 2 3 (Rb_r.out.row _ (St.v St.zero) rfl) rfl rfl _ rfl) rfl ⟨by first | rfl | (simp only [*]; rfl) | (simp [*]; done), below_setRow GB.out LB _⟩
      | false =>
        cases q4 : decide (cp > 1152921504606846976) with
        | true =>
          go_upto_region 2 with fail
          go_wp2_with (first | refine wpW_build (by rfl) 32 #[] rfl [] (by first | rfl | (simp [Act.eval, Act.put]; done)) _ builtSZ ?_ | refine wpList_storeSt rfl _ _ rfl rfl w1.heap.size St.zero rfl rfl _ Rb_r.out ?_ | fail)
          (try simp only [Exit.inBlock, Exit.then])
          exact bodyPost_ret (resSt _ w1.heap.size _ _ (.int .i64 1) 2 3 (Rb_r.out.row _ (St.v St.zero) rfl) rfl rfl _ rfl) rfl ⟨by first | rfl | (simp only [*]; rfl) | (simp [*]; done), below_setRow GB.out LB _⟩
        | false =>
          cases q5 : decide (ou < 0) with
          | true =>
            go_upto_region 2 with fail
            go_wp2_with (first | refine wpW_build (by rfl) 32 #[] rfl [] (by first | rfl | (simp [Act.eval, Act.put]; done)) _ builtSZ ?_ | refine wpList_storeSt rfl _ _ rfl rfl w1.heap.size St.zero rfl rfl _ Rb_r.out ?_ | fail)
            (try simp only [Exit.inBlock, Exit.then])
            exact bodyPost_ret (resSt _ w1.heap.size _ _ (.int .i64 1) 2 3 (Rb_r.out.row _ (St.v St.zero) rfl) rfl rfl _ rfl) rfl ⟨by first | rfl | (simp only [*]; rfl) | (simp [*]; done), below_setRow GB.out LB _⟩
          | false =>
            cases q6 : decide (ou > cp) with
            | true =>
              go_upto_region 2 with fail
              go_wp2_with (first | refine wpW_build (by rfl) 32 #[] rfl [] (by first | rfl | (simp [Act.eval, Act.put]; done)) _ builtSZ ?_ | refine wpList_storeSt rfl _ _ rfl rfl w1.heap.size St.zero rfl rfl _ Rb_r.out ?_ | fail)
              (try simp only [Exit.inBlock, Exit.then])
              exact bodyPost_ret (resSt _ w1.heap.size _ _ (.int .i64 1) 2 3 (Rb_r.out.row _ (St.v St.zero) rfl) rfl rfl _ rfl) rfl ⟨by first | rfl | (simp only [*]; rfl) | (simp [*]; done), below_setRow GB.out LB _⟩
            | false =>
              have i4 : cp ≤ 1152921504606846976 := by simpa using q4
              have i5 : 0 ≤ ou := by simpa using q5
              have i6 : ou ≤ cp := by simpa using q6
              go_upto_region 3 with fail
              go_wp2_with (first | refine wpW_load_at 24 _ rfl (w.heap.size) (99) (by rfl) (by rfl) _ 64 _ (h2.out _ Rb_c.out) Tryz.underlying24 rfl infoTwo ?_ | refine wpW_build (by rfl) 32 #[(0, .tmp 36), (1, .tmp 38), (2, .tmp 40), (3, .tmp 45), (13, .tmp 47), (17, .const (.int .i64 (-1)))] rfl [(0, .int .i64 sd), (1, .int .i64 cp), (2, .int .i64 ou), (3, .int .i64 (cp - ou)), (13, .agg (tabv (twoH p0 p1) 64)), (17, .int .i64 (-1))] (by first | rfl | (simp [Act.eval, Act.put]; done)) _ (builtSS _ _ _ _ _ _) ?_ | refine wpList_storeSt rfl _ _ rfl rfl w1.heap.size (startS sd cp ou (cp - ou) p0 p1) rfl rfl _ Rb_r.out ?_ | fail)
              (try simp only [Exit.inBlock, Exit.then])
              exact bodyPost_ret (resSt _ w1.heap.size _ _ (.int .i64 0) 2 3 (Rb_r.out.row _ (St.v (startS sd cp ou (cp - ou) p0 p1)) rfl) rfl rfl _ rfl) rfl ⟨by first | rfl | (simp only [*]; rfl) | (simp [*]; done), below_setRow GB.out LB _⟩
theorem cell_sameR {w w' : World} {a : Addr} (h : w'.heap[a.block]? = w.heap[a.block]?) : w'.cell? a = w.cell? a := by
  unfold World.cell?
  rw [h]
def hm1 : Msg := helM 1 0 z32
def u5 : Upd := ⟨1, 0, 5, fun _ => 0, nilB⟩
def m5 : Msg := ⟨1, 0, 5, 0, 0, z32, z32, nilB⟩
set_option maxRecDepth 100000 in
theorem builtH2 (x : Int) : Tryz.prog.built 36 [(0, .int .i64 6), (3, .int .i64 x)] = some (tabv (helM x 0 z32).v 70) := by kernel_rfl
set_option maxRecDepth 100000 in
theorem builtH4 (x n : Int) (h : Nat → UInt8) : Tryz.prog.built 36 [(0, .int .i64 6), (3, .int .i64 x), (4, .int .i64 n), (6, .agg (tabv (bv h) 32))] = some (tabv (helM x n h).v 70) := by kernel_rfl
set_option maxRecDepth 100000 in
theorem builtM15 : Tryz.prog.built 36 [(0, .int .i64 1), (2, .int .i64 5)] = some (tabv m5.v 70) := by kernel_rfl
theorem builtU15 : Tryz.prog.built 34 [(0, .int .i64 1), (2, .int .i64 5)] = some (tabv u5.v 36) := by kernel_rfl
theorem seed0 : (cfg0 dl0).seed = fun _ => 0 := rfl
theorem sec_ne : eqH z32 (secretA (fun _ => (0 : UInt8)) 0).1 = false := by
  cases h : eqH z32 (secretA (fun _ => (0 : UInt8)) 0).1 with
  | false => rfl
  | true =>
    exfalso
    have h0 := (eqH_iff _ _).1 h 0 (by omega)
    rw [sec_one] at h0
    have h1 := at_of head_one 0 (by omega) 2 (by decide)
    have h0' : z32 0 = secretOf step (fun _ => (0 : UInt8)) 0 0 := h0
    rw [← h0'] at h1
    exact absurd h1 (by decide)
theorem sec_ok : (secretA (fun _ => (0 : UInt8)) 0).2 = 0 := by rw [sec_one]
theorem w01 : wrap64 ((0 : Int) + 1) = 1 := by first | decide | (unfold wrap64; decide) | (unfold wrap64; rfl)
theorem w0m : wrap64 ((0 : Int) - 1) = -1 := by first | decide | (unfold wrap64; decide) | (unfold wrap64; rfl)
section
variable (c : Cf) (p q : Nat → UInt8) (x : Sl)
theorem rf1 (s : St) (h1 : s.loc = 0) (h2 : s.rem = 0) : refA c s (helM 1 0 z32) = 0 := by
  unfold refA provB lackB helM
  simp only [h1, h2, w01, w0m]
  rw [eqH_refl]
  rfl
theorem rf2 (s : St) (h1 : s.loc = 0) (h2 : s.rem = 0) (h3 : s.ack = 0) : refA c s (helM 2 0 z32) = 90 := by
  unfold refA provB lackB helM
  simp only [h1, h2, h3, w01, w0m]
  rw [eqH_refl]
  rfl
theorem rf3 (s : St) (h : c.seed = fun _ => 0) : refA c s (helM 1 1 z32) = 100 := by
  have e : provB c (helM 1 1 z32) = false := by
    show (bif decide ((1 : Int) < 0) then true else bif ((1 : Int) == 0) then _ else bif decide ((1 : Int) > 281474976710655) then false else (((secretA c.seed (1 - 1)).2 == 0) && eqH z32 (secretA c.seed (1 - 1)).1)) = false
    rw [h, show (1 : Int) - 1 = 0 from rfl, sec_ne, Bool.and_false]
    rfl
  unfold refA
  rw [e]
  rfl
theorem rf4 (s : St) (h : c.seed = fun _ => 0) (h1 : s.loc = 0) : refA c s (helM 1 1 (secretA (fun _ => (0 : UInt8)) 0).1) = 180 := by
  have e : provB c (helM 1 1 (secretA (fun _ => (0 : UInt8)) 0).1) = true := by
    show (bif decide ((1 : Int) < 0) then true else bif ((1 : Int) == 0) then _ else bif decide ((1 : Int) > 281474976710655) then false else (((secretA c.seed (1 - 1)).2 == 0) && eqH (secretA (fun _ => (0 : UInt8)) 0).1 (secretA c.seed (1 - 1)).1)) = true
    rw [h, show (1 : Int) - 1 = 0 from rfl, eqH_refl, sec_ok]
    rfl
  unfold refA
  rw [e, h1]
  rfl
end
theorem ans5 (c : Cf) (s : St) (ag : Msg) (h1 : s.loc = 0) (h2 : s.rem = 0) (h3 : s.so = 0) : ansL c s (helM 1 0 z32) [u5] ag = [m5] := by
  have e1 : rvB s (helM 1 0 z32) true = false := by unfold rvB helM; simp only [h1, w0m]; rfl
  have e2 : rvB s (helM 1 0 z32) false = false := by unfold rvB helM; simp only [h1, w0m]; rfl
  have e3 : lackB s (helM 1 0 z32) = false := by unfold lackB helM; simp only [h2]; rfl
  unfold ansL rvL
  rw [e1, e2, e3, h3]
  rfl
theorem wpW_eqMs {ops : Array Oper} {rest : List Oper} {o : Oper} {a : Act} {w : World} {Q : Exit → Act → World → Prop} (hw : Region.wanted o (yielded ops a.tmps) = true) (x y : Operand) (ho : o.op = .binOp .eql 36 x y 36) (s : Msg) (hx : a.eval x = .agg (tabv s.v 70)) (hy : a.eval y = .agg (tabv s.v 70)) (k : wpList Tryz.prog ops Q rest (a.put o.dst (.bool true)) w) : wpList Tryz.prog ops Q (o :: rest) a w := by
  refine wpList_step fun K hK => ?_
  rw [if_pos hw]
  have gh := guardM
  have hq : ∀ w : World, (Op.equalIn 10000 36 (.agg (tabv s.v 70)) (.agg (tabv s.v 70))).run Tryz.prog w = .ok true w := fun w => by rw [eqMD, eqM_refl]
  refine wpRun (v := .bool true) (w' := w) ?_ (hK _ _ k)
  unfold execOp
  simp only [ho, hx, hy]
  go_simp
set_option maxRecDepth 100000 in
set_option maxHeartbeats 40000000 in
theorem rfirst_any (w : World) (hG : Glob num w) : Calls Tryz.prog 32 #[] w fun e w' => e = .returned (.bool true) ∧ Below w.heap.size w w' := by
  have GB := hide (Below.refl w.heap.size w)
  have HG := hide (fun wx (hb : Below w.heap.size w wx) => hG.up hb)
  clear hG
  have HCf := hide (fun wx : World => configs_any num dl0 wx)
  have fs : rstartA (cfg0 dl0) = (st0 (cfg0 dl0).p0 (cfg0 dl0).p1, 0) := rfl
  have sd := seed0
  obtain ⟨C0, hC0⟩ : ∃ x, cfg0 dl0 = x := ⟨_, rfl⟩
  obtain ⟨C1, hC1⟩ : ∃ x, cfg1 dl0 = x := ⟨_, rfl⟩
  rw [hC0] at fs sd
  rw [hC0, hC1] at HCf
  obtain ⟨P0, hP0⟩ : ∃ x, C0.p0 = x := ⟨_, rfl⟩
  obtain ⟨P1, hP1⟩ : ∃ x, C0.p1 = x := ⟨_, rfl⟩
  rw [hP0, hP1] at fs
  have HSt : Hid (∀ wx : World, Below w.heap.size w wx → Calls Tryz.prog 26 #[.agg (tabv C0.v 164)] wx fun e w' => e = .returned (.tuple #[.agg (tabv (st0 P0 P1).v 115), .int .i64 0]) ∧ Below wx.heap.size wx w') := fun wx hb => by have h := rstart_any C0 wx; rw [fs] at h; exact h
  have HHl : Hid (∀ wx : World, Below w.heap.size w wx → Calls Tryz.prog 33 #[.agg (tabv C0.v 164), .agg (tabv (st0 P0 P1).v 115)] wx fun e w' => e = .returned (.agg (tabv hm1.v 70)) ∧ Below wx.heap.size wx w') := fun wx hb => by have e0 : helloA (st0 P0 P1) [] = hm1 := (by show helM (wrap64 ((0 : Int) + 1)) 0 (bif decide ((0 : Int) > 0) then _ else z32) = _; rw [w01]; rfl); rw [← e0]; exact hello_any C0 (st0 P0 P1) [] rfl (show (0 : Int) ≤ _ by decide) wx (HG.out wx hb) (Slots.nil _ _)
  obtain ⟨X, hX⟩ : ∃ x, (secretA (fun _ => (0 : UInt8)) 0).1 = x := ⟨_, rfl⟩
  have HSe : Hid (∀ wx : World, Calls Tryz.prog 36 #[.agg (tabv (bv C0.seed) 32), .int .i64 0] wx fun e w' => e = .returned (.tuple #[.agg (tabv (bv X) 32), .int .i64 0]) ∧ Below wx.heap.size wx w') := fun wx => by have h := rSecret_any num C0.seed 0 wx; rw [sd, hX, sec_ok] at h; rw [sd]; exact h
  have HA1 : Hid (∀ wx : World, Below w.heap.size w wx → Calls Tryz.prog 34 #[.agg (tabv C0.v 164), .agg (tabv (st0 P0 P1).v 115), .agg (tabv (Msg.v (helM 1 0 z32)) 70)] wx fun e w' => (∃ xa xn xc, e = .returned (.tuple #[.slice xa xn xc, .int .i64 0])) ∧ Below wx.heap.size wx w') := fun wx hb => by
    refine (answer_any C0 (st0 P0 P1) (helM 1 0 z32) [] [] rfl rfl (show 0 ≤ _ by decide) (show 0 ≤ _ by decide) (Nat.le_refl _) (Nat.le_refl _) (show _ ≤ (0 : Int) ∧ (0 : Int) ≤ _ by decide) wx (HG.out wx hb) (Upds.nil _ _) (Upds.nil _ _)).mono fun e w' h => ?_
    obtain ⟨v, E, rfl, hp, hb2⟩ := h
    have hr : refA C0 (st0 P0 P1) (helM 1 0 z32) = 0 := rf1 C0 _ rfl rfl
    obtain ⟨rfl, ag, _, ho⟩ := hp.2 hr
    obtain ⟨xa, xc, rfl, _⟩ := ho.msgs
    exact ⟨⟨_, _, _, rfl⟩, hb2⟩
  have HA2 : Hid (∀ wx : World, Below w.heap.size w wx → Calls Tryz.prog 34 #[.agg (tabv C0.v 164), .agg (tabv (st0 P0 P1).v 115), .agg (tabv (Msg.v (helM 2 0 z32)) 70)] wx fun e w' => (∃ xa xn xc, e = .returned (.tuple #[.slice xa xn xc, .int .i64 90])) ∧ Below wx.heap.size wx w') := fun wx hb => by
    refine (answer_any C0 (st0 P0 P1) (helM 2 0 z32) [] [] rfl rfl (show 0 ≤ _ by decide) (show 0 ≤ _ by decide) (Nat.le_refl _) (Nat.le_refl _) (show _ ≤ (0 : Int) ∧ (0 : Int) ≤ _ by decide) wx (HG.out wx hb) (Upds.nil _ _) (Upds.nil _ _)).mono fun e w' h => ?_
    obtain ⟨v, E, rfl, hp, hb2⟩ := h
    have hr : refA C0 (st0 P0 P1) (helM 2 0 z32) = 90 := rf2 C0 _ rfl rfl rfl
    obtain ⟨rfl, rfl⟩ := hp.1 (by rw [hr]; decide)
    rw [hr]
    exact ⟨⟨_, _, _, rfl⟩, hb2⟩
  have HA3 : Hid (∀ wx : World, Below w.heap.size w wx → Calls Tryz.prog 34 #[.agg (tabv C0.v 164), .agg (tabv (st0 P0 P1).v 115), .agg (tabv (Msg.v (helM 1 1 z32)) 70)] wx fun e w' => (∃ xa xn xc, e = .returned (.tuple #[.slice xa xn xc, .int .i64 100])) ∧ Below wx.heap.size wx w') := fun wx hb => by
    refine (answer_any C0 (st0 P0 P1) (helM 1 1 z32) [] [] rfl rfl (show 0 ≤ _ by decide) (show 0 ≤ _ by decide) (Nat.le_refl _) (Nat.le_refl _) (show _ ≤ (1 : Int) ∧ (1 : Int) ≤ _ by decide) wx (HG.out wx hb) (Upds.nil _ _) (Upds.nil _ _)).mono fun e w' h => ?_
    obtain ⟨v, E, rfl, hp, hb2⟩ := h
    have hr : refA C0 (st0 P0 P1) (helM 1 1 z32) = 100 := rf3 C0 _ sd
    obtain ⟨rfl, rfl⟩ := hp.1 (by rw [hr]; decide)
    rw [hr]
    exact ⟨⟨_, _, _, rfl⟩, hb2⟩
  have HA4 : Hid (∀ wx : World, Below w.heap.size w wx → Calls Tryz.prog 34 #[.agg (tabv C0.v 164), .agg (tabv (st0 P0 P1).v 115), .agg (tabv (Msg.v (helM 1 1 X)) 70)] wx fun e w' => (∃ xa xn xc, e = .returned (.tuple #[.slice xa xn xc, .int .i64 180])) ∧ Below wx.heap.size wx w') := fun wx hb => by
    refine (answer_any C0 (st0 P0 P1) (helM 1 1 X) [] [] rfl rfl (show 0 ≤ _ by decide) (show 0 ≤ _ by decide) (Nat.le_refl _) (Nat.le_refl _) (show _ ≤ (1 : Int) ∧ (1 : Int) ≤ _ by decide) wx (HG.out wx hb) (Upds.nil _ _) (Upds.nil _ _)).mono fun e w' h => ?_
    obtain ⟨v, E, rfl, hp, hb2⟩ := h
    have hr : refA C0 (st0 P0 P1) (helM 1 1 X) = 180 := (by rw [← hX]; exact rf4 C0 _ sd rfl)
    obtain ⟨rfl, rfl⟩ := hp.1 (by rw [hr]; decide)
    rw [hr]
    exact ⟨⟨_, _, _, rfl⟩, hb2⟩
  have HA5 : Hid (∀ (gU : Nat) (wx : World), Below w.heap.size w wx → Upds wx (some ⟨gU, 0, none⟩) [u5] → Calls Tryz.prog 34 #[.agg (tabv C0.v 164), .agg (tabv (St.v (setSl (st0 P0 P1) ⟨some ⟨gU, 0, none⟩, 1, 1⟩ ⟨none, 0, 0⟩ ⟨none, 0, 0⟩)) 115), .agg (tabv (Msg.v (helM 1 0 z32)) 70)] wx fun e w' => (∃ xa xc, e = .returned (.tuple #[.slice xa 1 xc, .int .i64 0]) ∧ Msgs w' xa [m5]) ∧ Below wx.heap.size wx w') := fun gU wx hb hU => by
    refine (answer_any C0 (setSl (st0 P0 P1) ⟨some ⟨gU, 0, none⟩, 1, 1⟩ ⟨none, 0, 0⟩ ⟨none, 0, 0⟩) (helM 1 0 z32) [u5] [] rfl rfl (show 1 ≤ _ by decide) (show 0 ≤ _ by decide) (Nat.le_refl _) (Nat.le_refl _) (by decide) wx (HG.out wx hb) hU (Upds.nil _ _)).mono fun e w' h => ?_
    obtain ⟨v, E, rfl, hp, hb2⟩ := h
    obtain ⟨rfl, ag, _, ho⟩ := hp.2 (rf1 C0 _ rfl rfl)
    rw [ans5 C0 _ ag rfl rfl rfl] at ho
    obtain ⟨xa, xc, rfl, hM, _⟩ := ho.msgs
    exact ⟨⟨_, _, rfl, hM⟩, hb2⟩
  have hix := index2C0 C0 C1
  have hsd : ∀ wx g, Has wx g 26 C0.v 164 → At wx g 3 (bv C0.seed) 32 := fun wx g h => h.at_ 3 (by omega) (fun i hi => C0.v_seed i hi)
  generalize C0.seed = sdd at HSe hsd
  replace hsd := hide hsd
  clear hC0 hC1 fs hP0 hP1 sd hX
  have hs4 : ∀ wx g, Has wx g 32 (st0 P0 P1).v 115 → wx.cell? ⟨g, 4, none⟩ = some (.slice none 0 0) ∧ wx.frozen? ⟨g, 4, none⟩ = false := fun wx g h => ⟨h.cell 4 (by omega), h.frozen 4⟩
  have hset : ∀ wx g gU, Has wx g 32 (st0 P0 P1).v 115 → Has (wx.setCell ⟨g, 4, none⟩ (.slice (some ⟨gU, 0, none⟩) 1 1)) g 32 (St.v (setSl (st0 P0 P1) ⟨some ⟨gU, 0, none⟩, 1, 1⟩ ⟨none, 0, 0⟩ ⟨none, 0, 0⟩)) 115 := fun wx g gU h => h.sOurs ⟨some ⟨gU, 0, none⟩, 1, 1⟩
  replace hset := hide hset
  replace hs4 := hide hs4
  skip
  go_enter Tryz.func32, Tryz.ntmps32
  go_wp2_with (first | refine wpW_build (by rfl) 55 #[(0, .const (.int .i64 1000)), (1, .const (.int .i64 700))] rfl [(0, .int .i64 1000), (1, .int .i64 700)] (by first | rfl | (simp [Act.eval, Act.put]; done)) _ builtDl ?_ | fail)
  refine (HCf.out _).mono ?_
  rintro e y1 ⟨rfl, hb⟩
  have Gy1 := hide (GB.out.trans (hb.mono GB.out.size))
  clear hb
  obtain ⟨A1, B1, hA1, rA1, hB1, rB1, hb⟩ := newCf y1 C0
  have RA1 := hide rA1
  have RB1 := hide rB1
  clear rA1 rB1
  have GB1 := hide (Gy1.out.trans (hb.mono Gy1.out.size))
  clear hb
  go_wp2_with (first | (rw [hA1]) | (refine wpList_storeCf rfl _ _ rfl rfl y1.heap.size C0 rfl rfl _ RA1.out ?_; rw [hB1]) | refine wpW_load_at 26 _ rfl (y1.heap.size) (0) (by rfl) (by rfl) _ 164 _ (RB1.out.at_ 0 (by omega) (fun i hi => by rw [Nat.zero_add])) Tryz.underlying26 rfl infoCf ?_ | fail)
  refine (HSt.out _ GB1.out).mono ?_
  rintro e y2 ⟨rfl, hb⟩
  have Ry2_c := hide (RB1.out.below hb RB1.out.lt)
  have Gy2 := hide (GB1.out.trans (hb.mono GB1.out.size))
  clear hb
  have NE1 : y1.heap.size < y2.heap.size := Ry2_c.out.lt
  have NE0 := Gy2.out.size
  obtain ⟨A2, B2, hA2, rA2, hB2, rB2, hb⟩ := newSt y2 (st0 P0 P1)
  have RA2 := hide rA2
  have RB2 := hide rB2
  clear rA2 rB2
  have RB2_c := hide (Ry2_c.out.below hb Ry2_c.out.lt)
  have GB2 := hide (Gy2.out.trans (hb.mono Gy2.out.size))
  clear hb
  go_wp2_with (first | (rw [hA2]) | (refine wpList_storeSt rfl _ _ rfl rfl y2.heap.size (st0 P0 P1) rfl rfl _ RA2.out ?_; rw [hB2]) | refine wpW_load_at 23 _ rfl (y1.heap.size) (3) (by rfl) (by rfl) _ 32 _ (hsd.out _ _ RB2_c.out) Tryz.underlying23 rfl info26 ?_ | fail)
  refine (HSe.out _).mono ?_
  rintro e y3 ⟨rfl, hb⟩
  have Ry3_c := hide (RB2_c.out.below hb RB2_c.out.lt)
  have Ry3_s := hide (RB2.out.below hb RB2.out.lt)
  have Gy3 := hide (GB2.out.trans (hb.mono GB2.out.size))
  clear hb
  obtain ⟨A3, B3, hA3, rA3, hB3, rB3, hb⟩ := newHs y3 X
  have RA3 := hide rA3
  have RB3 := hide rB3
  clear rA3 rB3
  rw [zero32] at hA3
  have RB3_c := hide (Ry3_c.out.below hb Ry3_c.out.lt)
  have RB3_s := hide (Ry3_s.out.below hb Ry3_s.out.lt)
  have GB3 := hide (Gy3.out.trans (hb.mono Gy3.out.size))
  clear hb
  go_wp2_with (first | (rw [hA3]) | (refine wpList_storeHs rfl _ _ rfl rfl y3.heap.size X rfl rfl _ RA3.out ?_; rw [hB3]) | refine wpW_load_at 26 _ rfl (y1.heap.size) (0) (by rfl) (by rfl) _ 164 _ (RB3_c.out.at_ 0 (by omega) (fun i hi => by rw [Nat.zero_add])) Tryz.underlying26 rfl infoCf ?_ | refine wpW_load_at 32 _ rfl (y2.heap.size) (0) (by rfl) (by rfl) _ 115 _ (RB3_s.out.at_ 0 (by omega) (fun i hi => by rw [Nat.zero_add])) Tryz.underlying32 rfl infoSt ?_ | fail)
  refine (HHl.out _ GB3.out).mono ?_
  rintro e y4 ⟨rfl, hb⟩
  have Ry4_c := hide (RB3_c.out.below hb RB3_c.out.lt)
  have Ry4_s := hide (RB3_s.out.below hb RB3_s.out.lt)
  have Ry4_x := hide (RB3.out.below hb RB3.out.lt)
  have Gy4 := hide (GB3.out.trans (hb.mono GB3.out.size))
  clear hb
  have NE2 : y2.heap.size < y4.heap.size := Ry4_s.out.lt
  obtain ⟨A4, B4, hA4, rA4, hB4, rB4, hb, _⟩ := newM y4 hm1
  have RA4 := hide rA4
  have RB4 := hide rB4
  clear rA4 rB4
  have RB4_c := hide (Ry4_c.out.below hb Ry4_c.out.lt)
  have RB4_s := hide (Ry4_s.out.below hb Ry4_s.out.lt)
  have RB4_x := hide (Ry4_x.out.below hb Ry4_x.out.lt)
  have GB4 := hide (Gy4.out.trans (hb.mono Gy4.out.size))
  clear hb
  go_wp2_with (first | (rw [hA4]) | (refine wpList_storeM rfl _ _ rfl rfl y4.heap.size hm1 rfl rfl _ RA4.out ?_; rw [hB4]) | refine wpW_load_at 26 _ rfl (y1.heap.size) (0) (by rfl) (by rfl) _ 164 _ (RB4_c.out.at_ 0 (by omega) (fun i hi => by rw [Nat.zero_add])) Tryz.underlying26 rfl infoCf ?_ | refine wpW_load_at 32 _ rfl (y2.heap.size) (0) (by rfl) (by rfl) _ 115 _ (RB4_s.out.at_ 0 (by omega) (fun i hi => by rw [Nat.zero_add])) Tryz.underlying32 rfl infoSt ?_ | refine wpW_build (by rfl) 36 #[(0, .const (.int .i64 6)), (3, .const (.int .i64 1))] rfl [(0, .int .i64 6), (3, .int .i64 1)] (by first | rfl | (simp [Act.eval, Act.put]; done)) _ (builtH2 _) ?_ | fail)
  refine (HA1.out _ GB4.out).mono ?_
  rintro e y5 ⟨⟨va, vn, vc, rfl⟩, hb⟩
  have Ry5_c := hide (RB4_c.out.below hb RB4_c.out.lt)
  have Ry5_s := hide (RB4_s.out.below hb RB4_s.out.lt)
  have Ry5_x := hide (RB4_x.out.below hb RB4_x.out.lt)
  have Ry5_m := hide (RB4.out.below hb RB4.out.lt)
  have Gy5 := hide (GB4.out.trans (hb.mono GB4.out.size))
  clear hb
  go_wp2_with (first | refine wpW_load_at 26 _ rfl (y1.heap.size) (0) (by rfl) (by rfl) _ 164 _ (Ry5_c.out.at_ 0 (by omega) (fun i hi => by rw [Nat.zero_add])) Tryz.underlying26 rfl infoCf ?_ | refine wpW_load_at 32 _ rfl (y2.heap.size) (0) (by rfl) (by rfl) _ 115 _ (Ry5_s.out.at_ 0 (by omega) (fun i hi => by rw [Nat.zero_add])) Tryz.underlying32 rfl infoSt ?_ | refine wpW_build (by rfl) 36 #[(0, .const (.int .i64 6)), (3, .const (.int .i64 2))] rfl [(0, .int .i64 6), (3, .int .i64 2)] (by first | rfl | (simp [Act.eval, Act.put]; done)) _ (builtH2 _) ?_ | fail)
  refine (HA2.out _ Gy5.out).mono ?_
  rintro e y6 ⟨⟨va, vn, vc, rfl⟩, hb⟩
  have Ry6_c := hide (Ry5_c.out.below hb Ry5_c.out.lt)
  have Ry6_s := hide (Ry5_s.out.below hb Ry5_s.out.lt)
  have Ry6_x := hide (Ry5_x.out.below hb Ry5_x.out.lt)
  have Ry6_m := hide (Ry5_m.out.below hb Ry5_m.out.lt)
  have Gy6 := hide (Gy5.out.trans (hb.mono Gy5.out.size))
  clear hb
  go_wp2_with (first | refine wpW_load_at 26 _ rfl (y1.heap.size) (0) (by rfl) (by rfl) _ 164 _ (Ry6_c.out.at_ 0 (by omega) (fun i hi => by rw [Nat.zero_add])) Tryz.underlying26 rfl infoCf ?_ | refine wpW_load_at 32 _ rfl (y2.heap.size) (0) (by rfl) (by rfl) _ 115 _ (Ry6_s.out.at_ 0 (by omega) (fun i hi => by rw [Nat.zero_add])) Tryz.underlying32 rfl infoSt ?_ | refine wpW_build (by rfl) 36 #[(0, .const (.int .i64 6)), (3, .const (.int .i64 1)), (4, .const (.int .i64 1))] rfl [(0, .int .i64 6), (3, .int .i64 1), (4, .int .i64 1)] (by first | rfl | (simp [Act.eval, Act.put]; done)) _ (builtHM _ _) ?_ | fail)
  refine (HA3.out _ Gy6.out).mono ?_
  rintro e y7 ⟨⟨va, vn, vc, rfl⟩, hb⟩
  have Ry7_c := hide (Ry6_c.out.below hb Ry6_c.out.lt)
  have Ry7_s := hide (Ry6_s.out.below hb Ry6_s.out.lt)
  have Ry7_x := hide (Ry6_x.out.below hb Ry6_x.out.lt)
  have Ry7_m := hide (Ry6_m.out.below hb Ry6_m.out.lt)
  have Gy7 := hide (Gy6.out.trans (hb.mono Gy6.out.size))
  clear hb
  go_wp2_with (first | refine wpW_load_at 26 _ rfl (y1.heap.size) (0) (by rfl) (by rfl) _ 164 _ (Ry7_c.out.at_ 0 (by omega) (fun i hi => by rw [Nat.zero_add])) Tryz.underlying26 rfl infoCf ?_ | refine wpW_load_at 32 _ rfl (y2.heap.size) (0) (by rfl) (by rfl) _ 115 _ (Ry7_s.out.at_ 0 (by omega) (fun i hi => by rw [Nat.zero_add])) Tryz.underlying32 rfl infoSt ?_ | refine wpW_load_at 23 _ rfl (y3.heap.size) (0) (by rfl) (by rfl) _ 32 _ (Ry7_x.out.at_ 0 (by omega) (fun i hi => by rw [Nat.zero_add])) Tryz.underlying23 rfl info26 ?_ | refine wpW_build (by rfl) 36 #[(0, .const (.int .i64 6)), (3, .const (.int .i64 1)), (4, .const (.int .i64 1)), (6, .tmp 58)] rfl [(0, .int .i64 6), (3, .int .i64 1), (4, .int .i64 1), (6, .agg (tabv (bv X) 32))] (by first | rfl | (simp [Act.eval, Act.put]; done)) _ (builtH4 _ _ _) ?_ | fail)
  refine (HA4.out _ Gy7.out).mono ?_
  rintro e y8 ⟨⟨va, vn, vc, rfl⟩, hb⟩
  have Ry8_c := hide (Ry7_c.out.below hb Ry7_c.out.lt)
  have Ry8_s := hide (Ry7_s.out.below hb Ry7_s.out.lt)
  have Ry8_x := hide (Ry7_x.out.below hb Ry7_x.out.lt)
  have Ry8_m := hide (Ry7_m.out.below hb Ry7_m.out.lt)
  have Gy8 := hide (Gy7.out.trans (hb.mono Gy7.out.size))
  clear hb
  obtain ⟨u1, hu1⟩ : ∃ wX, y8.alloc (.cells (tabv u5.v 36) 34) = wX := ⟨_, rfl⟩
  have RS := hide (run_sliceU y8 u5)
  rw [hu1] at RS
  have bu : Below y8.heap.size y8 u1 := by rw [← hu1]; exact (Below.refl _ _).alloc (Nat.le_refl _) _
  have HU1 := hide (show Upds u1 (some ⟨y8.heap.size, 0, none⟩) [u5] by rw [← hu1]; exact upds_one y8 u5)
  have hlt : y2.heap.size < y8.heap.size := Ry8_s.out.lt
  have hb := bu
  clear bu
  have Ru1_c := hide (Ry8_c.out.below hb Ry8_c.out.lt)
  have Ru1_s := hide (Ry8_s.out.below hb Ry8_s.out.lt)
  have Ru1_x := hide (Ry8_x.out.below hb Ry8_x.out.lt)
  have Ru1_m := hide (Ry8_m.out.below hb Ry8_m.out.lt)
  have Gu1 := hide (Gy8.out.trans (hb.mono Gy8.out.size))
  clear hb
  obtain ⟨c4, f4⟩ := hs4.out _ _ Ru1_s.out
  obtain ⟨u2, hu2⟩ : ∃ wX, u1.setCell ⟨y2.heap.size, 4, none⟩ (.slice (some ⟨y8.heap.size, 0, none⟩) 1 1) = wX := ⟨_, rfl⟩
  have S2 := hide (show Has u2 (y2.heap.size) 32 (St.v (setSl (st0 P0 P1) ⟨some ⟨y8.heap.size, 0, none⟩, 1, 1⟩ ⟨none, 0, 0⟩ ⟨none, 0, 0⟩)) 115 by rw [← hu2]; exact hset.out _ _ _ Ru1_s.out)
  have M2 : Cu.Mr (y2.heap.size) u1 u2 := by rw [← hu2]; exact Cu.Mr.set _
  skip
  have C2 := hide (show Has u2 (y1.heap.size) 26 C0.v 164 by rw [← hu2]; exact Ru1_c.out.other _ _ (by show y1.heap.size ≠ y2.heap.size; omega))
  have Mm := hide (show Has u2 (y4.heap.size) 36 hm1.v 70 by rw [← hu2]; exact Ru1_m.out.other _ _ (by show y4.heap.size ≠ y2.heap.size; omega))
  have HU2 := hide (show Upds u2 (some ⟨y8.heap.size, 0, none⟩) [u5] by
    refine HU1.out.elim (fun h => .inl h) fun h => ?_
    obtain ⟨b, of, e, hbl, hA⟩ := h
    cases e
    refine .inr ⟨_, _, rfl, by have := M2.size; omega, fun i t hi j hj => ?_⟩
    have h1 := hA i t hi j hj
    rw [← h1]
    exact cell_sameR (M2.block _ hbl (by show y8.heap.size ≠ y2.heap.size; omega)))
  have G2 := hide (show Below w.heap.size w u2 from Gu1.out.trans (M2.below (by omega) (Gu1.out.size)))
  go_wp2_with (first | refine wpW_build (by rfl) 34 #[(0, .const (.int .i64 1)), (2, .const (.int .i64 5))] rfl [(0, .int .i64 1), (2, .int .i64 5)] (by first | rfl | (simp [Act.eval, Act.put]; done)) _ builtU15 ?_ | refine wpList_slice1 rfl 27 _ rfl (.agg (tabv u5.v 36)) rfl RS.out ?_ | rw [hu2] | refine wpW_load_at 26 _ rfl (y1.heap.size) (0) (by rfl) (by rfl) _ 164 _ (C2.out.at_ 0 (by omega) (fun i hi => by rw [Nat.zero_add])) Tryz.underlying26 rfl infoCf ?_ | refine wpW_load_at 32 _ rfl (y2.heap.size) (0) (by rfl) (by rfl) _ 115 _ (S2.out.at_ 0 (by omega) (fun i hi => by rw [Nat.zero_add])) Tryz.underlying32 rfl infoSt ?_ | refine wpW_build (by rfl) 36 #[(0, .const (.int .i64 6)), (3, .const (.int .i64 1))] rfl [(0, .int .i64 6), (3, .int .i64 1)] (by first | rfl | (simp [Act.eval, Act.put]; done)) _ (builtH2 _) ?_ | fail)
  refine (HA5.out _ _ G2.out HU2.out).mono ?_
  rintro e y9 ⟨⟨va, vc, rfl, hMs⟩, hb⟩
  have HMs := hide hMs
  clear hMs c4 f4
  have Ry9_c := hide (C2.out.below hb C2.out.lt)
  have Ry9_s := hide (S2.out.below hb S2.out.lt)
  have Ry9_m := hide (Mm.out.below hb Mm.out.lt)
  have Gy9 := hide (G2.out.trans (hb.mono G2.out.size))
  clear hb
  obtain ⟨u3, hu3⟩ : ∃ wX, y9.alloc (.cells (tabv m5.v 70) 36) = wX := ⟨_, rfl⟩
  have RM := hide (run_sliceM y9 m5)
  rw [hu3] at RM
  have bu : Below y9.heap.size y9 u3 := by rw [← hu3]; exact (Below.refl _ _).alloc (Nat.le_refl _) _
  have HM3 := hide (show Msgs u3 (some ⟨y9.heap.size, 0, none⟩) [m5] by rw [← hu3]; exact msgs_one y9 m5)
  have HM4 := hide (HMs.out.below bu)
  have hb := bu
  clear bu
  have Ru3_c := hide (Ry9_c.out.below hb Ry9_c.out.lt)
  have Ru3_s := hide (Ry9_s.out.below hb Ry9_s.out.lt)
  have Ru3_m := hide (Ry9_m.out.below hb Ry9_m.out.lt)
  have Gu3 := hide (Gy9.out.trans (hb.mono Gy9.out.size))
  clear hb
  go_wp2_with (first | refine wpW_load_at 36 _ rfl (y4.heap.size) (0) (by rfl) (by rfl) _ 70 _ ((Ry9_m.out).at_ 0 (by omega) (fun i hi => by rw [Nat.zero_add])) Tryz.underlying36 rfl infoM ?_ | refine wpW_build (by rfl) 36 #[(0, .const (.int .i64 6)), (3, .const (.int .i64 1))] rfl [(0, .int .i64 6), (3, .int .i64 1)] (by first | rfl | (simp [Act.eval, Act.put]; done)) _ (builtH2 _) ?_ | refine wpW_eqMs rfl _ _ rfl hm1 rfl rfl ?_ | refine wpW_build (by rfl) 36 #[(0, .const (.int .i64 1)), (2, .const (.int .i64 5))] rfl [(0, .int .i64 1), (2, .int .i64 5)] (by first | rfl | (simp [Act.eval, Act.put]; done)) _ builtM15 ?_ | refine wpW_slice1 rfl 70 _ rfl (.agg (tabv m5.v 70)) rfl RM.out ?_ | fail)
  refine (sameMs_any va (some ⟨y9.heap.size, 0, none⟩) 1 vc 1 [m5] rfl (by decide) _ HM4.out HM3.out).mono ?_
  rintro e y99 ⟨rfl, hb⟩
  have GF := hide (Gu3.out.trans (hb.mono Gu3.out.size))
  clear hb
  go_wp2_with fail
  go_ret
  exact ⟨rfl, GF.out⟩
end Go.Proofs.YtmmcoedgoekhgaaGreatDoor
