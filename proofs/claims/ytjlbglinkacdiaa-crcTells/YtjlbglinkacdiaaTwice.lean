import Derived.Test.YtjlbglinkacdiaaTabs
namespace Go.Proofs.Ytjlbglinkacdiaa
open Go.RowKit C
set_option maxHeartbeats 400000 in
theorem twice_any (n : Num) (g : Nat) (t : TypeId) (f : Nat → BitVec 32) (w : World) (hg : Has n w g t f 32) :
    Calls Try.prog 18 #[.pointer (some ⟨g, 0, none⟩)] w fun e w' => e = .returned (.agg (tab n (fun i => ap f (f i) 32) 32)) ∧ Below w.heap.size w w' := by
  go_enter Try.func18, Try.ntmps18
  go_wp2
  go_loopw [5] (fun i wr => ∃ k : Nat, k ≤ 32 ∧ i = .int .i64 k ∧ Has n wr (w.heap.size + 1) 35 (upto (fun i => ap f (f i) 32) k) 32 ∧ Has n wr w.heap.size 35 (upto (fun _ => 0#32) 0) 32 ∧ Below w.heap.size w wr) (fun i _ => 32 - (intOf i).toNat)
  case atStart =>
    refine ⟨0, by omega, rfl, ?_, ?_, ((Below.refl _ _).alloc (Nat.le_refl _) _).alloc (by simp) _⟩
    · have := Has.new n (w.alloc (.cells #[.int .u32 0, .int .u32 0, .int .u32 0, .int .u32 0, .int .u32 0, .int .u32 0, .int .u32 0, .int .u32 0, .int .u32 0, .int .u32 0, .int .u32 0, .int .u32 0, .int .u32 0, .int .u32 0, .int .u32 0, .int .u32 0, .int .u32 0, .int .u32 0, .int .u32 0, .int .u32 0, .int .u32 0, .int .u32 0, .int .u32 0, .int .u32 0, .int .u32 0, .int .u32 0, .int .u32 0, .int .u32 0, .int .u32 0, .int .u32 0, .int .u32 0, .int .u32 0] 35)) 35 _ 32 _ (zeros32 n (fun i => ap f (f i) 32))
      simpa using this
    · exact (Has.new n w 35 _ 32 _ (zeros32 n _)).old _ (by simp)
  case round =>
    obtain ⟨k, hk, rfl, ht, hz, hb⟩ := hrel
    by_cases hlt : k < 32
    · have hg' := hg.below hb hg.lt
      have hc := hg'.cell k hlt
      have hd : decide ((k : Int) < 32) = true := by simp; omega
      go_wp2_with (go_at_call 17; refine (of_any n _ g t f _ hg').mono ?_; rintro e w1 ⟨rfl, hb1⟩; have hc1 := (ht.below hb1 ht.lt).cell k hlt; have hf1 := (ht.below hb1 ht.lt).frozen k)
      go_roundw
      case rel =>
        refine ⟨k + 1, by omega, by go_num, ?_, (hz.below hb1 hz.lt).other _ _ (by simp), (hb.trans (hb1.mono hb.size)).setCell (by simp) _⟩
        have := (ht.below hb1 ht.lt).set k (ap f (f k) 32)
        rw [upd_upto (fun i => ap f (f i) 32) k] at this
        exact this
      case measure => simp [intOf]; omega
    · have hk16 : k = 32 := by omega
      subst hk16
      go_wp2_with (first | refine wpList_load_row rfl 35 _ rfl (w.heap.size + 1) rfl 35 _ (0, 0) _ ht Try.underlying35 rfl (info35 n _) ?_ | refine wpList_store_row rfl 35 _ _ rfl w.heap.size _ rfl rfl 35 _ hz (info35 n _) (by rw [tab_size, tab_size]) (tab_one n _ _) ?_)
      exact bodyPost_ret (results_cell_row rfl _ _ w.heap.size 35 _ (0, 0) _ rfl (hz.row _) Try.underlying35 rfl (info35 n _)) rfl ⟨by rw [tab_full], below_setRow hb (Nat.le_refl _) _⟩
theorem of_stN (n : Num) (x : BitVec 32) (g : Nat) (t : TypeId) (e : Nat) (w : World) (hg : Has n w g t (fun i => stN e (one i)) 32) :
    Calls Try.prog 17 #[.pointer (some ⟨g, 0, none⟩), .int .u32 (n.u x)] w fun en w' => en = .returned (.int .u32 (n.u (stN e x))) ∧ Below w.heap.size w w' := by
  have h := of_any n x g t _ w hg
  rw [ap_stN] at h
  exact h
theorem twice_stN (n : Num) (g : Nat) (t : TypeId) (e : Nat) (w : World) (hg : Has n w g t (fun i => stN e (one i)) 32) :
    Calls Try.prog 18 #[.pointer (some ⟨g, 0, none⟩)] w fun en w' => en = .returned (.agg (tab n (fun i => stN (e + e) (one i)) 32)) ∧ Below w.heap.size w w' := by
  have h := twice_any n g t _ w hg
  have e1 : (fun i => ap (fun i => stN e (one i)) (stN e (one i)) 32) = fun i => stN (e + e) (one i) := by
    funext i; rw [ap_stN, stN_add]
  simp only [e1] at h
  exact h
theorem halves (e q : Nat) (a' : BitVec 32) : stN (8 * e * q) a' = if q % 2 = 1 then stN (8 * (e + e) * (q / 2)) (stN (8 * e) a') else stN (8 * (e + e) * (q / 2)) a' := by
  have hq := Nat.div_add_mod q 2
  split
  · rename_i h
    rw [← stN_add]
    congr 1
    rw [h] at hq
    have : 8 * e * q = 8 * e * (2 * (q / 2) + 1) := by rw [hq]
    rw [this, Nat.mul_add, Nat.mul_one, ← Nat.mul_assoc, show 8 * (e + e) = 8 * e * 2 by omega]; omega
  · rename_i h
    congr 1
    rw [show q % 2 = 0 by omega, Nat.add_zero] at hq
    have : 8 * e * q = 8 * e * (2 * (q / 2)) := by rw [hq]
    rw [this, ← Nat.mul_assoc, show 8 * (e + e) = 8 * e * 2 by omega]
end Go.Proofs.Ytjlbglinkacdiaa
