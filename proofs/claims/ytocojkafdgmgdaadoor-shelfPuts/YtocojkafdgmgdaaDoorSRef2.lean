/-
  The document's Secret, Level and Derive.
-/
import Derived.Test.YtocojkafdgmgdaaDoorSRef
import Derived.Deep.RegionHeld3
import Derived.BigQuiet
namespace Go.Proofs.YtocojkafdgmgdaaDoor
open Go.RowKit S
set_option linter.unusedVariables false
def secretA (h : Nat → UInt8) (n : Int) : (Nat → UInt8) × Int := if isN n = true then (secretOf step h n.toNat, 0) else (fun _ => 0, 90)
def levelA (n : Int) : Int × Int := if isN n = true then ((lvl (place n.toNat) 48 : Int), 0) else (0, 90)
theorem place_num {n : Int} (h : isN n = true) : n = 281474976710655 - (place n.toNat : Int) ∧ place n.toNat ≤ 281474976710655 := by
  rw [isN_iff] at h
  unfold place
  omega
set_option maxRecDepth 100000 in
set_option maxHeartbeats 1000000 in
theorem rLevel_any (n : Int) (w : World) : Calls Tryd.prog 30 #[.int .i64 n] w fun e w' => e = .returned (.tuple #[.int .i64 (levelA n).1, .int .i64 (levelA n).2]) ∧ Below w.heap.size w w' := by
  cases h : isN n with
  | true =>
    have e : levelA n = ((lvl (place n.toNat) 48 : Int), 0) := by unfold levelA; rw [if_pos h]
    rw [e]
    obtain ⟨h1, h2⟩ := place_num h
    obtain ⟨p, hp⟩ : ∃ p, place n.toNat = p := ⟨_, rfl⟩
    rw [hp] at h1 h2 ⊢
    have HP := fun w => rplace_any p h2 w
    rw [← h1] at HP
    have HP := hide HP
    have HH := hide h
    clear h h1 h2 hp
    go_enter Tryd.func30, Tryd.ntmps30
    go_wp2_with fail
    refine (rgood_any _ _).mono ?_
    rintro e w1 ⟨rfl, rfl⟩
    rw [HH.out]
    go_wp2_with fail
    refine (HP.out _).mono ?_
    rintro e w2 ⟨rfl, hb2⟩
    go_wp2_with fail
    refine (rlevel_any _ _).mono ?_
    rintro e w3 ⟨rfl, hb3⟩
    go_wp2
    go_ret2
    exact ⟨rfl, hb2.trans (hb3.mono hb2.size)⟩
  | false =>
    have e : levelA n = (0, 90) := by unfold levelA; rw [if_neg (by rw [h]; decide)]
    rw [e]
    go_enter Tryd.func30, Tryd.ntmps30
    go_wp2_with fail
    refine (rgood_any _ _).mono ?_
    rintro e w1 ⟨rfl, rfl⟩
    rw [h]
    go_wp2
    go_ret2
    exact ⟨rfl, Below.refl _ _⟩
theorem takeH {P : Program} {ops : Array Oper} {Q : Exit → Act → World → Prop} {md : Region.Mode} {S : World → Prop} (i : Nat) (d : Option Tmp) (v : Value) {oi : Oper} {fuel : Nat} {listed : Array Bool} {a : Act} {w : World} (hi : ops[i]? = some oi) (hd : oi.dst = d)
    (hs : Region.noSelect ops = true) (hf : Region.free md ops listed i = true) (hr : (Region.ready md ops listed).contains i = true)
    (hQ : ∀ c a w, Q (.panic c) (a.put oi.dst v) w → Q (.panic c) a w) (hw : Region.wanted oi (yielded ops a.tmps) = true) (hy : ∀ w, S w → (execOp a.eval oi).run P w = .ok (.value v) w) (hS : S w)
    (h : wpAnyH P md ops Q S fuel (listed.setIfInBounds i true) (a.put d v) w) : wpAnyH P md ops Q S (fuel + 1) listed a w :=
  wpAnyH_take hi hs hf hr hQ (.inl ⟨hw, hy⟩) hS (by rw [hd]; exact h)
theorem resCT (w : World) (g : Nat) (f : Nat → Value) (tmps : Array Value) (k : Int) (c t : Nat) (hg : Has w g 23 f 32) (hp : tmps.getD c undef = .pointer (some ⟨g, 0, none⟩)) (hq : tmps.getD t undef = .int .i64 k) (fn : Func) (h : fn.results = #[.cell c 23, .tmp t]) :
    (results fn tmps).run Tryd.prog w = .ok (.tuple #[.agg (tabv f 32), .int .i64 k]) w := by
  rw [results_cell_tmp h, hp, hq]
  have := run_loadVar_row (P := Tryd.prog) w g 23 23 (tabv f 32) (0, 0) _ hg Tryd.underlying23 rfl (by rw [tabv_size]; exact info26)
  simp [asAddr, this]
theorem wp_store_part {P : Program} {o : Oper} {a : Act} {w : World} {K : Act → World → Prop} {Q : Exit → Act → World → Prop} (ty : TypeId) (x y : Operand) (ho : o.op = .store ty x y) (hd : o.dst = none)
    (g of : Nat) (h : Nat → Value) (m : Nat) (hx : a.eval x = .pointer (some ⟨g, of, none⟩)) (hy : a.eval y = .agg (tabv h m))
    (t : TypeId) (f : Nat → Value) (M : Nat) (hg : Has w g t f M) (hm : of + m ≤ M) (hi : (P.info? ty).map (·.size) = some m)
    (h1 : ∀ i, i < m → (h i).oneCell' = true) (f' : Nat → Value) (hf : ∀ i, i < M → splice f of h m i = f' i)
    (hk : K a (w.setRow g (tabv f' M))) : o.wp P a w K Q := by
  unfold Oper.wp execOp
  simp only [ho, hx, hy, Instr.storeAt, Instr.sureAddr, Sem.run_bind, Sem.run_pure, Result.andThen_ok, run_storeVar_part w g of t ty f h M m hg hm hi h1]
  rw [tabv_congr _ f' M hf]
  unfold Oper.upon
  first | exact hk | (simp only [hd]; exact hk)
-- left out in this seat: rSecret_any
def deriveA (h : Nat → UInt8) (a c : Int) : (Nat → UInt8) × Int :=
  if isN a = true ∧ isN c = true then (if place a.toNat / 2 ^ lvl (place a.toNat) 48 = place c.toNat / 2 ^ lvl (place a.toNat) 48 then (deriveOf step h a.toNat c.toNat, 0) else (fun _ => 0, 5)) else (fun _ => 0, 90)
theorem zero48 : tabv (fun _ => (.int .i64 0 : Value)) 48 = (#[.int .i64 0, .int .i64 0, .int .i64 0, .int .i64 0, .int .i64 0, .int .i64 0, .int .i64 0, .int .i64 0, .int .i64 0, .int .i64 0, .int .i64 0, .int .i64 0, .int .i64 0, .int .i64 0, .int .i64 0, .int .i64 0, .int .i64 0, .int .i64 0, .int .i64 0, .int .i64 0, .int .i64 0, .int .i64 0, .int .i64 0, .int .i64 0, .int .i64 0, .int .i64 0, .int .i64 0, .int .i64 0, .int .i64 0, .int .i64 0, .int .i64 0, .int .i64 0, .int .i64 0, .int .i64 0, .int .i64 0, .int .i64 0, .int .i64 0, .int .i64 0, .int .i64 0, .int .i64 0, .int .i64 0, .int .i64 0, .int .i64 0, .int .i64 0, .int .i64 0, .int .i64 0, .int .i64 0, .int .i64 0] : Array Value) := rfl
theorem bits_eq {p q i : Nat} : p / 2 ^ i % 2 = q / 2 ^ i % 2 ↔ p.testBit i = q.testBit i := by
  rw [bit_div, bit_div]
  constructor
  · intro h; rw [h]
  · intro h
    have h1 : p / 2 ^ i % 2 < 2 := Nat.mod_lt _ (by omega)
    have h2 : q / 2 ^ i % 2 < 2 := Nat.mod_lt _ (by omega)
    have h3 : (p / 2 ^ i % 2 = 1) ↔ (q / 2 ^ i % 2 = 1) := by simpa using h
    omega
set_option maxRecDepth 100000 in
set_option maxHeartbeats 4000000 in
theorem rDerive_any (n : Num) (h : Nat → UInt8) (x y : Int) (w : World) : Calls Tryd.prog 29 #[.agg (tabv (bv h) 32), .int .i64 x, .int .i64 y] w fun e w' => e = .returned (.tuple #[.agg (tabv (bv (deriveA h x y).1) 32), .int .i64 (deriveA h x y).2]) ∧ Below w.heap.size w w' := by
  obtain ⟨w3, hW⟩ : ∃ w3, (w.alloc (.cells (tabv (bv h) 32) 23)).alloc (.cells (tabv (fun _ => .int .u8 0) 32) 23) = w3 := ⟨_, rfl⟩
  have g0 : Has w3 w.heap.size 23 (bv h) 32 := by rw [← hW]; exact (Has.new w 23 (bv h) 32 _ rfl).old _
  have g1 : Has w3 (w.heap.size + 1) 23 (fun _ => .int .u8 0) 32 := by
    rw [← hW]
    have := Has.new (w.alloc (.cells (tabv (bv h) 32) 23)) 23 (fun _ => .int .u8 0) 32 _ rfl
    rw [size_alloc] at this
    exact this
  have gb : Below w.heap.size w w3 := by rw [← hW]; exact ((Below.refl w.heap.size w).alloc (Nat.le_refl _) _).alloc (by simp) _
  rw [zero32] at hW
  by_cases hx : isN x = true
  · by_cases hy : isN y = true
    · obtain ⟨h1, h2⟩ := place_num hx
      obtain ⟨h3, h4⟩ := place_num hy
      have hD : deriveA h x y = if place x.toNat / 2 ^ lvl (place x.toNat) 48 = place y.toNat / 2 ^ lvl (place x.toNat) 48 then (goDown step (place y.toNat) (lvl (place x.toNat) 48) 0 h, 0) else (fun _ => 0, 5) := by
        unfold deriveA deriveOf; rw [if_pos ⟨hx, hy⟩]
      obtain ⟨p, hp⟩ : ∃ p, place x.toNat = p := ⟨_, rfl⟩
      obtain ⟨q, hq⟩ : ∃ q, place y.toNat = q := ⟨_, rfl⟩
      rw [hp] at h1 h2
      rw [hq] at h3 h4
      rw [hp, hq] at hD
      have hdiv := hangs_div (p := p) (q := q) (by omega) (by omega)
      have hl48 := lvl_le 48 p
      obtain ⟨l, hl⟩ : ∃ l, lvl p 48 = l := ⟨_, rfl⟩
      have HP1 := fun w => rplace_any p h2 w
      rw [← h1] at HP1
      have HP2 := fun w => rplace_any q h4 w
      rw [← h3] at HP2
      have HLV := fun w => rlevel_any p w
      have HANG : Hid (Hangs p q ↔ p / 2 ^ l = q / 2 ^ l) := hide (by rw [← hl]; exact hdiv)
      have HHD : Hid (Hangs p q ↔ ∀ i, l ≤ i → i < 48 → p / 2 ^ i % 2 = q / 2 ^ i % 2) := hide (by unfold Hangs; rw [hl]; exact ⟨fun h i a b => bits_eq.2 (h i a b), fun h i a b => bits_eq.1 (h i a b)⟩)
      rw [hl] at HLV hl48 hD
      have HP1 := hide HP1
      have HP2 := hide HP2
      have HLV := hide HLV
      have HD := hide hD
      have HX := hide hx
      have HY := hide hy
      clear hx hy h1 h2 h3 h4 hp hq hD hdiv hl
      go_enter Tryd.func29, Tryd.ntmps29
      go_wp2_with fail
      refine (rgood_any _ _).mono ?_
      rintro e w4 ⟨rfl, rfl⟩
      rw [HX.out]
      clear hW
      go_wp2_with fail
      refine (rgood_any _ _).mono ?_
      rintro e w5 ⟨rfl, rfl⟩
      rw [HY.out]
      go_wp2_with fail
      refine (HP1.out _).mono ?_
      rintro e w6 ⟨rfl, hb6⟩
      have a0 := g0.below hb6 g0.lt
      have a1 := g1.below hb6 g1.lt
      have ab := gb.trans (hb6.mono gb.size)
      clear g0 g1 gb hb6
      have hn := Has.new w6 56 (fun _ => .int .i64 0) 48 _ rfl
      rw [zero48] at hn
      have HNn := hide hn
      clear hn
      go_wp2_with (refine wpList_store_part rfl 56 _ _ rfl rfl w6.heap.size 0 (placeV p) 48 rfl rfl 56 _ 48 HNn.out (by omega) info48 (fun _ _ => rfl) (placeV p) (fun i hi => by unfold splice; rw [if_pos (by omega), Nat.sub_zero]) ?_)
      generalize hw7 : World.setRow (World.alloc w6 _) _ _ = w7
      obtain ⟨g8, hg8⟩ : ∃ g, w6.heap.size = g := ⟨_, rfl⟩
      have b0 : Has w7 w.heap.size 23 (bv h) 32 := by rw [← hw7]; exact (a0.old _).row_other _ _ (by have := a0.lt; omega)
      have b1 : Has w7 (w.heap.size + 1) 23 (fun _ => .int .u8 0) 32 := by rw [← hw7]; exact (a1.old _).row_other _ _ (by have := a1.lt; omega)
      have b8 : Has w7 g8 56 (placeV p) 48 := by rw [← hw7, ← hg8]; exact HNn.out.row _ _ rfl
      have bb : Below w.heap.size w w7 := by rw [← hw7]; exact below_setRow (ab.alloc ab.size _) ab.size _
      have hg0 : w.heap.size + 1 < g8 := by rw [← hg8]; exact a1.lt
      rw [hg8]
      clear hw7 a0 a1 ab HNn hg8
      refine (HP2.out _).mono ?_
      rintro e w8 ⟨rfl, hb8⟩
      have c0 := b0.below hb8 b0.lt
      have c1 := b1.below hb8 b1.lt
      have c8 := b8.below hb8 b8.lt
      have cb := bb.trans (hb8.mono bb.size)
      clear b0 b1 b8 bb hb8
      have hn := Has.new w8 56 (fun _ => .int .i64 0) 48 _ rfl
      rw [zero48] at hn
      have HNn := hide hn
      clear hn
      obtain ⟨g9, hg9⟩ : ∃ g, w8.heap.size = g := ⟨_, rfl⟩
      obtain ⟨w9, hw9⟩ : ∃ x, (w8.alloc (.cells (tabv (fun _ => .int .i64 0) 48) 56)).setRow w8.heap.size (tabv (placeV q) 48) = x := ⟨_, rfl⟩
      rw [zero48] at hw9
      have d0 : Has w9 w.heap.size 23 (bv h) 32 := by rw [← hw9]; exact (c0.old _).row_other _ _ (by have := c0.lt; omega)
      have d1 : Has w9 (w.heap.size + 1) 23 (fun _ => .int .u8 0) 32 := by rw [← hw9]; exact (c1.old _).row_other _ _ (by have := c1.lt; omega)
      have d8 : Has w9 g8 56 (placeV p) 48 := by rw [← hw9]; exact (c8.old _).row_other _ _ (by have := c8.lt; omega)
      have d9 : Has w9 g9 56 (placeV q) 48 := by rw [← hw9, ← hg9]; exact HNn.out.row _ _ rfl
      have db : Below w.heap.size w w9 := by rw [← hw9]; exact below_setRow (cb.alloc cb.size _) cb.size _
      have hg1 : g8 < g9 := by rw [← hg9]; exact c8.lt
      have HD8 := hide d8
      have HW9 := hide hw9
      have HG9 := hide hg9
      clear c0 c1 c8 cb hw9 hg9
      go_wp2_with (first | refine wpList_store_part rfl 56 _ _ rfl rfl w8.heap.size 0 (placeV q) 48 rfl rfl 56 _ 48 HNn.out (by omega) info48 (fun _ _ => rfl) (placeV q) (fun i hi => by unfold splice; rw [if_pos (by omega), Nat.sub_zero]) ?_ | (rw [HW9.out]; refine wpList_load_part rfl 56 _ rfl g8 0 rfl 56 _ 48 48 _ HD8.out (by omega) Tryd.underlying56 rfl info48 (placeV p) (fun i hi => by rw [Nat.zero_add]) ?_))
      rw [HG9.out]
      refine (HLV.out _).mono ?_
      rintro e w10 ⟨rfl, hb10⟩
      have e0 := d0.below hb10 d0.lt
      have e1 := d1.below hb10 d1.lt
      have e8 := d8.below hb10 d8.lt
      have e9 := d9.below hb10 d9.lt
      have eb := db.trans (hb10.mono db.size)
      clear d0 d1 d8 d9 db hb10 HD8 HW9 HNn HG9
      go_wp2
      go_loopw [11] (fun i wr => ∃ k : Nat, l ≤ k ∧ k ≤ 48 ∧ i = .int .i64 k ∧ (∀ i, l ≤ i → i < k → p / 2 ^ i % 2 = q / 2 ^ i % 2) ∧ Has wr w.heap.size 23 (bv h) 32 ∧ Has wr (w.heap.size + 1) 23 (fun _ => .int .u8 0) 32 ∧ Has wr g8 56 (placeV p) 48 ∧ Has wr g9 56 (placeV q) 48 ∧ Below w.heap.size w wr) (fun i _ => 48 - (intOf i).toNat)
      case atStart => exact ⟨l, by omega, hl48, rfl, fun i a b => by omega, e0, e1, e8, e9, eb⟩
      case round =>
        clear e0 e1 e8 e9 eb
        obtain ⟨k, hlk, hk, rfl, hz, e0, e1, e8, e9, eb⟩ := hrel
        have HZ := hide hz
        clear hz
        by_cases hlt : k < 48
        · have dk : decide ((k : Int) < 48) = true := by simp; omega
          have hk0 : (0 : Int) ≤ (k : Int) := by omega
          have hk1 : (k : Int) < 48 := by omega
          have f8 : wr.cell? ⟨g8, k, none⟩ = some (.int .i64 ((p / 2 ^ k % 2 : Nat) : Int)) := e8.cell k hlt
          have f9 : wr.cell? ⟨g9, k, none⟩ = some (.int .i64 ((q / 2 ^ k % 2 : Nat) : Int)) := e9.cell k hlt
          obtain ⟨b, hb⟩ : ∃ b, p / 2 ^ k % 2 = b := ⟨_, rfl⟩
          obtain ⟨c, hc⟩ : ∃ b, q / 2 ^ k % 2 = b := ⟨_, rfl⟩
          rw [hb] at f8
          rw [hc] at f9
          have HBb := hide hb
          have HCc := hide hc
          clear hb hc
          by_cases hbc : b = c
          · subst hbc
            go_wp2
            go_quiet (fail)
            go_wp2
            go_roundw
            case rel =>
              refine ⟨k + 1, by omega, by omega, by go_num, fun i h1 h2 => ?_, e0.drewN _, e1.drewN _, e8.drewN _, e9.drewN _, ⟨eb.os, eb.tape, eb.output, eb.size, eb.block⟩⟩
              by_cases e : i = k
              · rw [e, HBb.out, HCc.out]
              · exact HZ.out i h1 (by omega)
            case measure => simp [intOf]; omega
          · have hne : ((b : Int) == (c : Int)) = false := by rw [beq_eq_false_iff_ne]; omega
            have hne2 : ((b : Int) != (c : Int)) = true := by rw [bne_iff_ne]; omega
            have hne3 : (b != c) = true := by simpa using hbc
            have hne4 : (b == c) = false := by simpa using hbc
            have HNO : Hid (deriveA h x y = (fun _ => 0, 5)) := hide (by
              rw [HD.out, if_neg (fun k' => ?_)]
              have h1 := HHD.out.1 (HANG.out.2 k') k hlk hlt
              rw [HBb.out, HCc.out] at h1
              exact hbc h1)
            have HE1 := hide e1
            clear hbc
            go_wp2
            go_quiet (fail)
            go_wp2_with (refine wpList_store_part rfl 23 _ _ rfl rfl (w.heap.size + 1) 0 (bv (fun _ => 0)) 32 rfl rfl 23 _ 32 (HE1.out.drewN _) (by omega) info26 (fun _ _ => rfl) (bv (fun _ => 0)) (fun i hi => by unfold splice; rw [if_pos (by omega)]; rfl) ?_)
            exact bodyPost_ret (resCT _ (w.heap.size + 1) _ _ 5 6 7 ((HE1.out.drewN _).row _ (bv (fun _ => 0)) rfl) rfl rfl _ rfl) rfl ⟨by rw [HNO.out], below_setRow (w := wr.drewN nq) ⟨eb.os, eb.tape, eb.output, eb.size, eb.block⟩ (by omega) _⟩
        · have hk8 : k = 48 := by omega
          subst hk8
          have dk : decide (((48 : Nat) : Int) < 48) = false := by decide
          have HYES : Hid (deriveA h x y = (goDown step q l 0 h, 0)) := hide (by
            rw [HD.out, if_pos (HANG.out.1 (HHD.out.2 (fun i h1 h2 => HZ.out i h1 h2)))])
          have HE0 := hide e0
          have HE9 := hide e9
          go_wp2_with (first | refine wpList_load_part rfl 23 _ rfl w.heap.size 0 rfl 23 _ 32 32 _ HE0.out (by omega) Tryd.underlying23 rfl info26 (bv h) (fun i hi => by rw [Nat.zero_add]) ?_ | refine wpList_load_part rfl 56 _ rfl g9 0 rfl 56 _ 48 48 _ HE9.out (by omega) Tryd.underlying56 rfl info48 (placeV q) (fun i hi => by rw [Nat.zero_add]) ?_)
          refine (rdown_any n h q l hl48 _).mono ?_
          rintro e w12 ⟨rfl, hb12⟩
          have f1 := e1.below hb12 e1.lt
          have fb := eb.trans (hb12.mono eb.size)
          have HF1 := hide f1
          clear e0 e1 e8 e9 eb hb12 HE0 HE9
          go_wp2_with (refine wpList_store_part rfl 23 _ _ rfl rfl (w.heap.size + 1) 0 (bv (goDown step q l 0 h)) 32 rfl rfl 23 _ 32 HF1.out (by omega) info26 (fun _ _ => rfl) (bv (goDown step q l 0 h)) (fun i hi => by unfold splice; rw [if_pos (by omega), Nat.sub_zero]) ?_)
          exact bodyPost_ret (resCT _ (w.heap.size + 1) _ _ 0 6 7 (f1.row _ (bv (goDown step q l 0 h)) rfl) rfl rfl _ rfl) rfl ⟨by rw [HYES.out], below_setRow fb (by omega) _⟩
    · have e : deriveA h x y = (fun _ => 0, 90) := by unfold deriveA; rw [if_neg (fun k => hy k.2)]
      rw [e]
      have HX := hide hx
      have HY : Hid (isN y = false) := hide (by simpa using hy)
      clear hx hy e
      go_enter Tryd.func29, Tryd.ntmps29
      go_wp2_with fail
      refine (rgood_any _ _).mono ?_
      rintro e w4 ⟨rfl, rfl⟩
      rw [HX.out]
      clear hW
      go_wp2_with fail
      refine (rgood_any _ _).mono ?_
      rintro e w5 ⟨rfl, rfl⟩
      rw [HY.out]
      go_wp2_with (refine wpList_store_part rfl 23 _ _ rfl rfl (w.heap.size + 1) 0 (bv (fun _ => 0)) 32 rfl rfl 23 _ 32 g1 (by omega) info26 (fun _ _ => rfl) (bv (fun _ => 0)) (fun i hi => by unfold splice; rw [if_pos (by omega)]; rfl) ?_)
      exact bodyPost_ret (resCT _ (w.heap.size + 1) _ _ 90 6 7 (g1.row _ (bv (fun _ => 0)) rfl) rfl rfl _ rfl) rfl ⟨rfl, below_setRow gb (by omega) _⟩
  · have e : deriveA h x y = (fun _ => 0, 90) := by unfold deriveA; rw [if_neg (fun k => hx k.1)]
    rw [e]
    have HX : Hid (isN x = false) := hide (by simpa using hx)
    clear hx e
    go_enter Tryd.func29, Tryd.ntmps29
    go_wp2_with fail
    refine (rgood_any _ _).mono ?_
    rintro e w4 ⟨rfl, rfl⟩
    rw [HX.out]
    clear hW
    go_wp2_with (refine wpList_store_part rfl 23 _ _ rfl rfl (w.heap.size + 1) 0 (bv (fun _ => 0)) 32 rfl rfl 23 _ 32 g1 (by omega) info26 (fun _ _ => rfl) (bv (fun _ => 0)) (fun i hi => by unfold splice; rw [if_pos (by omega)]; rfl) ?_)
    exact bodyPost_ret (resCT _ (w.heap.size + 1) _ _ 90 6 7 (g1.row _ (bv (fun _ => 0)) rfl) rfl rfl _ rfl) rfl ⟨rfl, below_setRow gb (by omega) _⟩
end Go.Proofs.YtocojkafdgmgdaaDoor
