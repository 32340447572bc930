/-
  Parse.
-/
import Derived.Test.YtkhogpnmkonajaaDoorHex
namespace Go.Proofs.YtkhogpnmkonajaaDoor
open Go.RowKit S
def Good (s : List UInt8) : Prop := s.length = 64 ∧ ∀ i, i < 64 → (dv (byteAt s i)).2 = true
/-- Byte i of the hash that the digits say. -/
def pv (s : List UInt8) (i : Nat) : UInt8 := UInt8.ofNat (16 * (dv (byteAt s (2 * i))).1.toNat + (dv (byteAt s (2 * i + 1))).1.toNat)
theorem dv_lt (c : UInt8) : (dv c).1.toNat < 16 := by
  have hc := c.toNat_lt
  unfold dv; split
  · rw [UInt8.toNat_ofNat', Nat.mod_eq_of_lt (by omega)]; omega
  · split
    · rw [UInt8.toNat_ofNat', Nat.mod_eq_of_lt (by omega)]; omega
    · decide
theorem or_all : ∀ a b : Fin 16, bits .or .u8 ((a.val : Int) * 16 % 256) (b.val : Int) = ((16 * a.val + b.val : Nat) : Int) := by decide +kernel
theorem pv_num (s : List UInt8) (i : Nat) : bits .or .u8 (((dv (byteAt s (2 * i))).1.toNat : Int) * 16 % 256) ((dv (byteAt s (2 * i + 1))).1.toNat : Int) = ((pv s i).toNat : Int) := by
  have h1 := dv_lt (byteAt s (2 * i))
  have h2 := dv_lt (byteAt s (2 * i + 1))
  rw [or_all ⟨_, h1⟩ ⟨_, h2⟩]
  unfold pv
  rw [UInt8.toNat_ofNat', Nat.mod_eq_of_lt (by omega)]
theorem str_get (s : ByteArray) (i : Nat) (h : i < s.size) : s[i]? = some (byteAt s.data.toList i) := by
  have hl : i < s.data.toList.length := by rw [str_len]; exact h
  rw [getElem?_pos s i h]
  unfold byteAt
  rw [List.getD_eq_getElem?_getD, List.getElem?_eq_getElem hl]
  rfl
theorem res2 (w : World) (g : Nat) (f : Nat → Value) (tmps : Array Value) (k : Int) (hg : Has w g 26 f 32) (hp : tmps.getD 2 undef = .pointer (some ⟨g, 0, none⟩)) (hq : tmps.getD 3 undef = .int .i64 k) (fn : Func) (h : fn.results = #[.cell 2 26, .tmp 3]) :
    (results fn tmps).run Tryd.prog w = .ok (.tuple #[.agg (tabv f 32), .int .i64 k]) w := by
  rw [results_cell_tmp h, hp, hq]
  have := run_loadVar_row (P := Tryd.prog) w g 26 26 (tabv f 32) (0, 0) _ hg Tryd.underlying26 rfl (by rw [tabv_size]; exact info26)
  simp [asAddr, this]
set_option maxHeartbeats 800000 in
theorem parse_any (s : ByteArray) (w : World) :
    Calls Tryd.prog 15 #[.string s] w fun e w' => ((Good s.data.toList ∧ e = .returned (.tuple #[.agg (tabv (bv (pv s.data.toList)) 32), .int .i64 0])) ∨ (¬ Good s.data.toList ∧ e = .returned (.tuple #[.agg (tabv (bv (fun _ => 0)) 32), .int .i64 4]))) ∧ Below w.heap.size w w' := by
  have h0 : Has ((w.alloc (.cells (tabv (bv (fun _ => 0)) 32) 26)).alloc (.cells (tabv (bv (fun _ => 0)) 32) 26)) w.heap.size 26 (bv (fun _ => 0)) 32 := (Has.new w 26 _ 32 _ rfl).old _
  have hb0 : Below w.heap.size w ((w.alloc (.cells (tabv (bv (fun _ => 0)) 32) 26)).alloc (.cells (tabv (bv (fun _ => 0)) 32) 26)) := ((Below.refl w.heap.size w).alloc (Nat.le_refl _) _).alloc (by simp) _
  have H0 := hide h0
  have HB := hide hb0
  clear h0 hb0
  go_enter Tryd.func15, Tryd.ntmps15
  by_cases h64 : s.size = 64
  · have hd : ((s.size : Int) != 64) = false := by rw [bne_eq_false_iff_eq]; omega
    go_wp2
    generalize hW : World.alloc (World.alloc w _) _ = w3
    have g0 : Has w3 w.heap.size 26 (bv (fun _ => 0)) 32 := by rw [← hW]; exact H0.out
    have g1 : Has w3 (w.heap.size + 1) 26 (bv (uptoB (pv s.data.toList) 0)) 32 := by
      rw [← hW]
      have := (Has.new (w.alloc (.cells (tabv (bv (fun _ => 0)) 32) 26)) 26 (fun _ => .int .u8 0) 32 _ rfl).congr (bv (uptoB (pv s.data.toList) 0)) (fun i _ => by unfold bv uptoB; rw [if_neg (by omega)]; rfl)
      rw [size_alloc] at this
      exact this
    have gb : Below w.heap.size w w3 := by rw [← hW]; exact HB.out
    clear hW H0 HB
    go_loopw [14] (fun i wr => ∃ k : Nat, k ≤ 32 ∧ i = .int .i64 k ∧ (∀ j, j < 2 * k → (dv (byteAt s.data.toList j)).2 = true) ∧ Has wr w.heap.size 26 (bv (fun _ => 0)) 32 ∧ Has wr (w.heap.size + 1) 26 (bv (uptoB (pv s.data.toList) k)) 32 ∧ Below w.heap.size w wr) (fun i _ => 32 - (intOf i).toNat)
    case atStart => exact ⟨0, by omega, rfl, fun j hj => absurd hj (by omega), g0, g1, gb⟩
    case round =>
      clear g0 g1 gb
      obtain ⟨k, hk, rfl, hok, g0, g1, gb⟩ := hrel
      by_cases hlt : k < 32
      · have hx : ∀ w' : World, (Instr.index 9 (.string s) (.int .i64 (2 * (k : Int)))).run Tryd.prog w' = .ok (.int .u8 ((byteAt s.data.toList (2 * k)).toNat : Int)) w' := fun w' => run_index_str w' s .i64 (2 * k) _ (str_get s _ (by omega))
        have hy : ∀ w' : World, (Instr.index 9 (.string s) (.int .i64 (2 * (k : Int) + 1))).run Tryd.prog w' = .ok (.int .u8 ((byteAt s.data.toList (2 * k + 1)).toNat : Int)) w' := fun w' => run_index_str w' s .i64 (2 * k + 1) _ (str_get s _ (by omega))
        have cw := g1.cell k hlt
        have cf := g1.frozen k
        have hd2 : decide ((k : Int) < 32) = true := by simp; omega
        have HO := hide hok
        clear hok
        go_wp2_with fail
        refine (value_any (byteAt s.data.toList (2 * k)) _).mono ?_
        rintro e w1 ⟨rfl, rfl⟩
        go_wp2_with fail
        refine (value_any (byteAt s.data.toList (2 * k + 1)) _).mono ?_
        rintro e w2 ⟨rfl, rfl⟩
        cases hv1 : (dv (byteAt s.data.toList (2 * k))).2
        · have hbad : ¬ Good s.data.toList := fun h => by
            have := h.2 (2 * k) (by omega)
            rw [hv1] at this; cases this
          have HN := hide hbad
          clear hbad
          go_wp2_with (refine wpList_store_part rfl 26 _ _ rfl rfl w.heap.size 0 (bv (fun _ => 0)) 32 rfl rfl 26 _ 32 g0 (by omega) info26 (fun _ _ => rfl) (bv (fun _ => 0)) (fun i hi => by unfold splice; rw [if_pos (by omega)]; rfl) ?_)
          exact bodyPost_ret (res2 _ w.heap.size _ _ 4 (g0.row _ (bv (fun _ => 0)) rfl) rfl rfl _ rfl) rfl ⟨.inr ⟨HN.out, rfl⟩, below_setRow gb (Nat.le_refl _) _⟩
        · cases hv2 : (dv (byteAt s.data.toList (2 * k + 1))).2
          · have hbad : ¬ Good s.data.toList := fun h => by
              have := h.2 (2 * k + 1) (by omega)
              rw [hv2] at this; cases this
            have HN := hide hbad
            clear hbad
            go_wp2_with (refine wpList_store_part rfl 26 _ _ rfl rfl w.heap.size 0 (bv (fun _ => 0)) 32 rfl rfl 26 _ 32 g0 (by omega) info26 (fun _ _ => rfl) (bv (fun _ => 0)) (fun i hi => by unfold splice; rw [if_pos (by omega)]; rfl) ?_)
            exact bodyPost_ret (res2 _ w.heap.size _ _ 4 (g0.row _ (bv (fun _ => 0)) rfl) rfl rfl _ rfl) rfl ⟨.inr ⟨HN.out, rfl⟩, below_setRow gb (Nat.le_refl _) _⟩
          · have H1 := hide hv1
            have H2 := hide hv2
            go_wp2
            go_roundw
            case rel =>
              refine ⟨k + 1, by omega, by go_num, fun j hj => ?_, g0.other _ _ (by simp), ?_, gb.setCell (by simp) _⟩
              · rcases Nat.lt_or_ge j (2 * k) with h | h
                · exact HO.out j h
                · rcases Nat.lt_or_ge (2 * k) j with h' | h'
                  · rw [show j = 2 * k + 1 by omega]; exact H2.out
                  · rw [show j = 2 * k by omega]; exact H1.out
              · have := g1.set k (.int .u8 ((pv s.data.toList k).toNat : Int))
                rw [bv_upd, uptoB_next] at this
                rw [pv_num]
                exact this
            case measure => simp [intOf]; omega
      · have hk32 : k = 32 := by omega
        subst hk32
        have hgood : Good s.data.toList := ⟨by rw [str_len]; exact h64, fun i hi => hok i (by omega)⟩
        have HG := hide hgood
        clear hgood hok
        go_wp2_with (first | refine wpList_load_part rfl 26 _ rfl (w.heap.size + 1) 0 rfl 26 _ 32 32 _ g1 (by omega) Tryd.underlying26 rfl info26 (bv (pv s.data.toList)) (fun i hi => by rw [Nat.zero_add]; unfold bv uptoB; rw [if_pos hi]) ?_ | refine wpList_store_part rfl 26 _ _ rfl rfl w.heap.size 0 (bv (pv s.data.toList)) 32 rfl rfl 26 _ 32 g0 (by omega) info26 (fun _ _ => rfl) (bv (pv s.data.toList)) (fun i hi => by unfold splice; rw [if_pos (by omega), Nat.sub_zero]) ?_)
        exact bodyPost_ret (res2 _ w.heap.size _ _ 0 (g0.row _ (bv (pv s.data.toList)) rfl) rfl rfl _ rfl) rfl ⟨.inl ⟨HG.out, rfl⟩, below_setRow gb (Nat.le_refl _) _⟩
  · have hd : ((s.size : Int) != 64) = true := by rw [bne_iff_ne]; omega
    have hbad : ¬ Good s.data.toList := fun h => h64 (by rw [← str_len]; exact h.1)
    have HN := hide hbad
    clear hbad
    go_wp2_with (refine wpList_store_part rfl 26 _ _ rfl rfl w.heap.size 0 (bv (fun _ => 0)) 32 rfl rfl 26 _ 32 H0.out (by omega) info26 (fun _ _ => rfl) (bv (fun _ => 0)) (fun i hi => by unfold splice; rw [if_pos (by omega)]; rfl) ?_)
    exact bodyPost_ret (res2 _ w.heap.size _ _ 4 (H0.out.row _ (bv (fun _ => 0)) rfl) rfl rfl _ rfl) rfl ⟨.inr ⟨HN.out, rfl⟩, below_setRow HB.out (Nat.le_refl _) _⟩
end Go.Proofs.YtkhogpnmkonajaaDoor
