/-
  The document's Parse.
-/
import Derived.Test.YtkhogpnmkonajaaDoorRefHex
namespace Go.Proofs.YtkhogpnmkonajaaDoor
open Go.RowKit S
/-- A byte behind the first v digits tried. -/
def nxUp (c o : UInt8) (v : Nat) : UInt8 := if (dv c).2 = true ∧ (dv c).1.toNat < v then UInt8.ofNat (16 * o.toNat + (dv c).1.toNat) else o
theorem nxUp_full (c o : UInt8) : nxUp c o 16 = nx c o := by
  have := dv_lt c
  unfold nxUp nx
  by_cases h : (dv c).2 = true
  · rw [if_pos ⟨h, this⟩, if_pos h]
  · rw [if_neg (fun x => h x.1), if_neg h]
theorem nxUp_hit (c o : UInt8) (v : Nat) (h : (dv c).2 = true ∧ (dv c).1.toNat = v) : nxUp c o v = o ∧ nxUp c o (v + 1) = UInt8.ofNat (16 * o.toNat + v) := by
  unfold nxUp
  constructor
  · rw [if_neg (by omega)]
  · rw [if_pos ⟨h.1, by omega⟩, h.2]
theorem nxUp_miss (c o : UInt8) (v : Nat) (h : ¬ ((dv c).2 = true ∧ (dv c).1.toNat = v)) : nxUp c o (v + 1) = nxUp c o v := by
  unfold nxUp
  by_cases h2 : (dv c).2 = true ∧ (dv c).1.toNat < v
  · rw [if_pos h2, if_pos ⟨h2.1, by omega⟩]
  · rw [if_neg h2, if_neg (fun x => h ⟨x.1, by have h3 : ¬ (dv c).1.toNat < v := fun y => h2 ⟨x.1, y⟩; have h4 := x.2; omega⟩)]
theorem upd_same {α : Type} (f : Nat → α) (k : Nat) : upd f k (f k) = f := by funext i; unfold upd; split <;> simp_all
theorem upd_upd {α : Type} (f : Nat → α) (k : Nat) (a b : α) : upd (upd f k a) k b = upd f k b := by funext i; unfold upd; split <;> rfl
theorem upd_at {α : Type} (f : Nat → α) (k : Nat) (a : α) : upd f k a k = a := by unfold upd; rw [if_pos rfl]
theorem nx_num (o : UInt8) (v : Nat) (hv : v < 16) : (o.toNat : Int) * 16 % 256 + (v : Int) = ((UInt8.ofNat (16 * o.toNat + v)).toNat : Int) := by
  rw [UInt8.toNat_ofNat']; omega
theorem digits_at (w : World) (v : Nat) (hv : v < 16) : (Instr.index 9 (.string { data := #[48, 49, 50, 51, 52, 53, 54, 55, 56, 57, 97, 98, 99, 100, 101, 102] }) (.int .i64 (v : Int))).run Tryd.prog w = .ok (.int .u8 ((dig v).toNat : Int)) w :=
  run_index_str w digD .i64 v _ (dig_at ⟨v, hv⟩)
set_option maxHeartbeats 1600000 in
theorem refParse_any (s : ByteArray) (w : World) (hs : s.size ≤ 140737488355328) :
    Calls Tryd.prog 16 #[.string s] w fun e w' => ((Good s.data.toList ∧ e = .returned (.tuple #[.agg (tabv (bv (pv s.data.toList)) 32), .int .i64 0])) ∨ (¬ Good s.data.toList ∧ e = .returned (.tuple #[.agg (tabv (bv (fun _ => 0)) 32), .int .i64 4]))) ∧ Below w.heap.size w w' := by
  obtain ⟨L, hL⟩ : ∃ L, s.data.toList = L := ⟨_, rfl⟩
  have hx : ∀ (k : Nat) (w' : World), k < s.size → (Instr.index 9 (.string s) (.int .i64 (k : Int))).run Tryd.prog w' = .ok (.int .u8 ((byteAt L k).toNat : Int)) w' := fun k w' hk => by
    rw [← hL]; exact run_index_str w' s .i64 k _ (str_get s k hk)
  rw [hL]
  have HL := hide hL
  have HX := hide hx
  clear hL hx
  go_enter Tryd.func16, Tryd.ntmps16
  go_wp2
  generalize hW : World.alloc (World.alloc w _) _ = w3
  have g0 : Has w3 w.heap.size 26 (bv (fun _ => 0)) 32 := by rw [← hW]; exact (Has.new w 26 (bv (fun _ => 0)) 32 _ rfl).old _
  have g1 : Has w3 (w.heap.size + 1) 26 (bv (acc L 0)) 32 := by
    rw [← hW]
    have := Has.new (w.alloc (.cells (tabv (bv (fun _ => 0)) 32) 26)) 26 (bv (fun _ => 0)) 32 _ rfl
    rw [size_alloc] at this
    exact this
  have gb : Below w.heap.size w w3 := by rw [← hW]; exact ((Below.refl w.heap.size w).alloc (Nat.le_refl _) _).alloc (by simp) _
  clear hW
  go_loopw [6] (fun i wr => ∃ k : Nat, k ≤ s.size ∧ k ≤ 64 ∧ i = .int .i64 k ∧ Has wr w.heap.size 26 (bv (fun _ => 0)) 32 ∧ Has wr (w.heap.size + 1) 26 (bv (acc L k)) 32 ∧ Below w.heap.size w wr) (fun i _ => 64 - (intOf i).toNat)
  case atStart => exact ⟨0, by omega, by omega, rfl, g0, g1, gb⟩
  case round =>
    clear g0 g1 gb
    obtain ⟨k, hk, hk64, rfl, g0, g1, gb⟩ := hrel
    by_cases hlt : k < s.size ∧ k < 64
    · have hd1 : decide ((k : Int) < (s.size : Int)) = true := by simp; omega
      have hd2 : decide ((k : Int) < 64) = true := by simp; omega
      have hxk := fun w' => HX.out k w' hlt.1
      have hk2 : k / 2 < 32 := by omega
      obtain ⟨c, hc⟩ : ∃ c, byteAt L k = c := ⟨_, rfl⟩
      obtain ⟨o, ho⟩ : ∃ o, acc L k (k / 2) = o := ⟨_, rfl⟩
      obtain ⟨F, hF⟩ : ∃ F, acc L k = F := ⟨_, rfl⟩
      have hnext : acc L (k + 1) = upd F (k / 2) (nxUp c o 16) := by
        rw [nxUp_full]; simp only [acc]; rw [hF, hc]; rw [hF] at ho; rw [ho]
      rw [hF] at g1 ho
      rw [hc] at hxk
      have HNx := hide hnext
      have HO := hide ho
      clear hnext hc hF ho
      go_wp2
      go_loopw [7] (fun i wr => ∃ v : Nat, v ≤ 16 ∧ i = .int .i64 v ∧ Has wr w.heap.size 26 (bv (fun _ => 0)) 32 ∧ Has wr (w.heap.size + 1) 26 (bv (upd F (k / 2) (nxUp c o v))) 32 ∧ Below w.heap.size w wr) (fun i _ => 16 - (intOf i).toNat)
      case atStart =>
        refine ⟨0, by omega, rfl, g0, ?_, gb⟩
        have : nxUp c o 0 = F (k / 2) := by unfold nxUp; rw [if_neg (by omega), HO.out]
        rw [this, upd_same]; exact g1
      case round =>
        clear g0 g1 gb
        obtain ⟨v, hv, rfl, g0, g1, gb⟩ := hrel
        by_cases hlt2 : v < 16
        · have hd : decide ((v : Int) < 16) = true := by simp; omega
          have hdg := fun w' => digits_at w' v hlt2
          have hv0 : (0 : Int) ≤ (v : Int) := by omega
          have ct := c.toNat_lt
          by_cases hit : (dv c).2 = true ∧ (dv c).1.toNat = v
          · have he : (((dig v).toNat : Int) == (c.toNat : Int)) = true := by rw [beq_iff_eq]; exact (dig_eq v hlt2 c).2 hit
            obtain ⟨n1, n2⟩ := nxUp_hit c o v hit
            have cw := g1.cell (k / 2) hk2
            have cf := g1.frozen (k / 2)
            simp only [bv, upd_at, n1] at cw
            have hnum := nx_num o v hlt2
            have HH := hide hit
            have N2 := hide n2
            clear hit n1 n2
            go_wp2
            go_quiet (fail)
            go_wp2
            go_roundw
            case rel =>
              refine ⟨v + 1, by omega, by go_num, (g0.drewN nq).other _ _ (by simp), ?_, (below_drewN gb nq).setCell (by simp) _⟩
              have := (g1.drewN nq).set (k / 2) (.int .u8 ((UInt8.ofNat (16 * o.toNat + v)).toNat : Int))
              rw [bv_upd, upd_upd] at this
              rw [N2.out]
              first | exact this | (rw [hnum]; exact this)
            case measure => simp [intOf]; omega
          · have he : (((dig v).toNat : Int) == (c.toNat : Int)) = false := by rw [beq_eq_false_iff_ne]; exact fun e => hit ((dig_eq v hlt2 c).1 e)
            have n2 := nxUp_miss c o v hit
            have N2 := hide n2
            have HH := hide hit
            clear n2 hit
            go_wp2
            go_quiet (fail)
            go_wp2
            go_roundw
            case rel => exact ⟨v + 1, by omega, by go_num, g0.drewN nq, by rw [N2.out]; exact g1.drewN nq, below_drewN gb nq⟩
            case measure => simp [intOf]; omega
        · have hv16 : v = 16 := by omega
          subst hv16
          rw [← HNx.out] at g1
          have hd : decide (((16 : Nat) : Int) < 16) = false := by decide
          go_wp2
          go_roundw
          case rel => exact ⟨k + 1, by omega, by omega, by go_num, g0, g1, gb⟩
          case measure => simp [intOf]; omega
    · obtain ⟨m, hm⟩ : ∃ m, acc L k = m := ⟨_, rfl⟩
      have hgo : (Good L ∧ strOf (hexd m) 64 = s ∧ ∀ i, i < 32 → m i = pv L i) ∨ (¬ Good L ∧ strOf (hexd m) 64 ≠ s) := by
        by_cases hg : Good L
        · left
          have hs64 : s.size = 64 := by rw [← str_len, HL.out]; exact hg.1
          have hk64 : k = 2 * 32 := by omega
          have hm2 : ∀ i, i < 32 → m i = pv L i := fun i hi => by
            rw [← hm, hk64, acc_good L hg 32 (by omega) i, if_pos hi]
          refine ⟨hg, ?_, hm2⟩
          have e : strOf (hexd m) 64 = strOf (hexd (pv L)) 64 := strOf_congr _ _ _ fun i hi => by unfold hexd; rw [hm2 (i / 2) (by omega)]
          rw [e]
          have h1 : (strOf (hexd (pv L)) 64).data.toList = s.data.toList := by rw [strOf_list, hex_pv L hg, HL.out]
          exact ByteArray.ext (Array.toList_inj.1 h1)
        · right
          refine ⟨hg, fun e => hg ?_⟩
          rw [← HL.out, ← e, strOf_list]
          exact hex_good m
      rw [hm] at g1
      have hd : (if decide ((k : Int) < (s.size : Int)) then decide ((k : Int) < 64) else false) = false := by
        by_cases h1 : k < s.size
        · have : ¬ k < 64 := fun h2 => hlt ⟨h1, h2⟩
          simp; omega
        · simp; omega
      clear hm
      have HG := hide hgo
      clear hgo
      have fin : ∀ wr : World, Has wr w.heap.size 26 (bv (fun _ => 0)) 32 → Has wr (w.heap.size + 1) 26 (bv m) 32 → Below w.heap.size w wr → True := fun _ _ _ _ => trivial
      clear fin
      have hx2 := fun w' => refHex_any m w'
      obtain ⟨X, hX⟩ : ∃ X, strOf (hexd m) 64 = X := ⟨_, rfl⟩
      rw [hX] at hx2
      have HX2 := hide hx2
      clear hx2
      have HXe := hide hX
      clear hX
      by_cases h1 : k < s.size
      · have hd1 : decide ((k : Int) < (s.size : Int)) = true := by simp; omega
        have hd2 : decide ((k : Int) < 64) = false := by have : ¬ k < 64 := fun h2 => hlt ⟨h1, h2⟩; simp; omega
        clear hd hlt
        go_wp2_with (refine wpList_load_part rfl 26 _ rfl (w.heap.size + 1) 0 rfl 26 _ 32 32 _ g1 (by omega) Tryd.underlying26 rfl info26 (bv m) (fun i _ => by rw [Nat.zero_add]) ?_)
        refine (HX2.out _).mono ?_
        rintro e w5 ⟨rfl, hb5⟩
        have g0' := g0.below hb5 g0.lt
        have g1' := g1.below hb5 g1.lt
        have gb' := gb.trans (hb5.mono gb.size)
        clear g0 g1 gb hb5
        rcases HG.out with ⟨hg, he, hm2⟩ | ⟨hg, he⟩
        · rw [HXe.out] at he
          subst he
          have GG := hide hg
          have HM := hide hm2
          clear hg hm2
          go_wp2_with (first | refine wpList_load_part rfl 26 _ rfl (w.heap.size + 1) 0 rfl 26 _ 32 32 _ g1' (by omega) Tryd.underlying26 rfl info26 (bv (pv L)) (fun i hi => by rw [Nat.zero_add]; unfold bv; rw [HM.out i hi]) ?_ | refine wpList_store_part rfl 26 _ _ rfl rfl w.heap.size 0 (bv (pv L)) 32 rfl rfl 26 _ 32 g0' (by omega) info26 (fun _ _ => rfl) (bv (pv L)) (fun i hi => by unfold splice; rw [if_pos (by omega), Nat.sub_zero]) ?_)
          exact bodyPost_ret (res2 _ w.heap.size _ _ 0 (g0'.row _ (bv (pv L)) rfl) rfl rfl _ rfl) rfl ⟨.inl ⟨GG.out, rfl⟩, below_setRow gb' (Nat.le_refl _) _⟩
        · rw [HXe.out] at he
          have hne : (X.toList == s.toList) = false := by
            rw [beq_eq_false_iff_ne]; intro e
            rw [ByteArray.toList_eq, ByteArray.toList_eq] at e
            exact he (ByteArray.ext (Array.toList_inj.1 e))
          have GG := hide hg
          clear hg he
          go_wp2_with (refine wpList_store_part rfl 26 _ _ rfl rfl w.heap.size 0 (bv (fun _ => 0)) 32 rfl rfl 26 _ 32 g0' (by omega) info26 (fun _ _ => rfl) (bv (fun _ => 0)) (fun i hi => by unfold splice; rw [if_pos (by omega)]; rfl) ?_)
          exact bodyPost_ret (res2 _ w.heap.size _ _ 4 (g0'.row _ (bv (fun _ => 0)) rfl) rfl rfl _ rfl) rfl ⟨.inr ⟨GG.out, rfl⟩, below_setRow gb' (Nat.le_refl _) _⟩
      · have hd1 : decide ((k : Int) < (s.size : Int)) = false := by simp; omega
        clear hd hlt
        go_wp2_with (refine wpList_load_part rfl 26 _ rfl (w.heap.size + 1) 0 rfl 26 _ 32 32 _ g1 (by omega) Tryd.underlying26 rfl info26 (bv m) (fun i _ => by rw [Nat.zero_add]) ?_)
        refine (HX2.out _).mono ?_
        rintro e w5 ⟨rfl, hb5⟩
        have g0' := g0.below hb5 g0.lt
        have g1' := g1.below hb5 g1.lt
        have gb' := gb.trans (hb5.mono gb.size)
        clear g0 g1 gb hb5
        rcases HG.out with ⟨hg, he, hm2⟩ | ⟨hg, he⟩
        · rw [HXe.out] at he
          subst he
          have GG := hide hg
          have HM := hide hm2
          clear hg hm2
          go_wp2_with (first | refine wpList_load_part rfl 26 _ rfl (w.heap.size + 1) 0 rfl 26 _ 32 32 _ g1' (by omega) Tryd.underlying26 rfl info26 (bv (pv L)) (fun i hi => by rw [Nat.zero_add]; unfold bv; rw [HM.out i hi]) ?_ | refine wpList_store_part rfl 26 _ _ rfl rfl w.heap.size 0 (bv (pv L)) 32 rfl rfl 26 _ 32 g0' (by omega) info26 (fun _ _ => rfl) (bv (pv L)) (fun i hi => by unfold splice; rw [if_pos (by omega), Nat.sub_zero]) ?_)
          exact bodyPost_ret (res2 _ w.heap.size _ _ 0 (g0'.row _ (bv (pv L)) rfl) rfl rfl _ rfl) rfl ⟨.inl ⟨GG.out, rfl⟩, below_setRow gb' (Nat.le_refl _) _⟩
        · rw [HXe.out] at he
          have hne : (X.toList == s.toList) = false := by
            rw [beq_eq_false_iff_ne]; intro e
            rw [ByteArray.toList_eq, ByteArray.toList_eq] at e
            exact he (ByteArray.ext (Array.toList_inj.1 e))
          have GG := hide hg
          clear hg he
          go_wp2_with (refine wpList_store_part rfl 26 _ _ rfl rfl w.heap.size 0 (bv (fun _ => 0)) 32 rfl rfl 26 _ 32 g0' (by omega) info26 (fun _ _ => rfl) (bv (fun _ => 0)) (fun i hi => by unfold splice; rw [if_pos (by omega)]; rfl) ?_)
          exact bodyPost_ret (res2 _ w.heap.size _ _ 4 (g0'.row _ (bv (fun _ => 0)) rfl) rfl rfl _ rfl) rfl ⟨.inr ⟨GG.out, rfl⟩, below_setRow gb' (Nat.le_refl _) _⟩
end Go.Proofs.YtkhogpnmkonajaaDoor
