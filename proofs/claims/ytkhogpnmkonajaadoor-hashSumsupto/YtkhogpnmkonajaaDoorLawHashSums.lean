/-
  The walk of HashSums.
-/
import Derived.Test.YtkhogpnmkonajaaDoorLend
namespace Go.Proofs.YtkhogpnmkonajaaDoor
open Go.RowKit S
/-- The lent texts tell what Sum tells. -/
theorem StrsO.front {w : World} {B g n cap : Nat} {l : List ByteArray} (h : StrsO w B (.slice (some ⟨g, 0, none⟩) n cap) (l ++ [markS])) : Strs w (some ⟨g, 0, none⟩) l :=
  .inr ⟨g, 0, rfl, (World.ownsRow.lt h g rfl).2, fun i hi => by rw [Nat.zero_add, h.cell i (by simp; omega)]; simp [hi]⟩
def xS (s : ByteArray) : ByteArray := s ++ { data := #[120] }
theorem wpList_append_strsAt {ops : Array Oper} {rest : List Oper} {o : Oper} {a : Act} {w w0 : World} {Q : Exit → Act → World → Prop} (hgd : o.guard = none) (s x : Operand)
    (ho : o.op = .call { callee := .builtin .append, args := #[s, x], argTypes := #[24, 24] }) (B : Nat) (v : Value) (l ns : List ByteArray) (hs : a.eval s = v) (hown : StrsO w0 B v l) (hns : 0 < ns.length) (m : Nat) (hm : ns.length = m) (N : Nat) (hN : w0.heap.size = N)
    (hx : a.eval x = .slice (some ⟨N, 0, none⟩) m m) (hw : w = w0.alloc (.cells (ns.map Value.string).toArray 9)) (hlen : (l.length + ns.length) * 16 ≤ 140737488355328) (hB : B ≤ N)
    (h : ∀ g cap w', StrsO w' B (.slice (some ⟨g, 0, none⟩) (l.length + m) cap) (l ++ ns) → w0.grownBy w' v.ownBlock → wpList Tryd.prog ops Q rest (a.put o.dst (.slice (some ⟨g, 0, none⟩) (l.length + m) cap)) w') : wpList Tryd.prog ops Q (o :: rest) a w := by
  subst hN
  exact wpList_append_strs hgd s x ho B v l ns hs hown hns m hm hx hw hlen hB (fun g cap w' h1 h2 _ => h g cap w' h1 h2)
theorem flat_xS (ss : List ByteArray) : (flat (ss.map xS)).length = (flat ss).length + ss.length := by
  induction ss with
  | nil => rfl
  | cons s ss ih =>
    have e1 : flat ((s :: ss).map xS) = (xS s).data.toList ++ flat (ss.map xS) := by simp [flat]
    have e2 : flat (s :: ss) = s.data.toList ++ flat ss := by simp [flat]
    rw [e1, e2, List.length_append, List.length_append, ih, str_len, str_len]
    unfold xS
    rw [ByteArray.size_append, List.length_cons]
    have : (ByteArray.mk #[120]).size = 1 := rfl
    omega
/-- The first k texts longer by a letter, the others, the mark. -/
def mix (ss : List ByteArray) (k : Nat) : List ByteArray := (ss.take k).map xS ++ ss.drop k ++ [markS]
theorem mix_zero (ss : List ByteArray) : mix ss 0 = ss ++ [markS] := by simp [mix]
theorem mix_length (ss : List ByteArray) (k : Nat) : (mix ss k).length = ss.length + 1 := by simp [mix]; omega
theorem mix_all (ss : List ByteArray) : mix ss ss.length = ss.map xS ++ [markS] := by simp [mix]
theorem mix_at (ss : List ByteArray) (k : Nat) (h : k < ss.length) : (mix ss k)[k]'(by rw [mix_length]; omega) = ss[k] := by
  have e : (mix ss k)[k]? = some ss[k] := by
    unfold mix
    rw [List.append_assoc, List.getElem?_append_right (by simp; omega)]
    have : k - (List.map xS (List.take k ss)).length = 0 := by simp; omega
    rw [this, List.drop_eq_getElem_cons h]; rfl
  rw [List.getElem?_eq_getElem (by rw [mix_length]; omega)] at e
  exact Option.some.inj e
theorem mix_set (ss : List ByteArray) (k : Nat) (h : k < ss.length) : (mix ss k).set k (xS ss[k]) = mix ss (k + 1) := by
  unfold mix
  rw [List.append_assoc, List.set_append_right _ _ (by simp; omega)]
  have : k - (List.map xS (List.take k ss)).length = 0 := by simp; omega
  rw [this, List.take_succ_eq_append_getElem h, List.map_append]
  have e : (List.drop k ss ++ [markS]).set 0 (xS ss[k]) = xS ss[k] :: (List.drop (k + 1) ss ++ [markS]) := by
    rw [List.drop_eq_getElem_cons h]; rfl
  rw [e]
  simp
attribute [local go_sem ↓] Go.wp_at_zero Go.wp_at_succ
set_option maxHeartbeats 1600000 in
theorem hashSums_num (n : Num) (ad : Option Addr) (c : Nat) (ss : List ByteArray) (w : World) (hG : Glob n w) (hst : Strs w ad ss) (hl : (flat ss).length + ss.length ≤ 1048576) :
    Calls Tryd.prog 7 #[.slice ad ss.length c] w fun e w' => e = .returned (.bool true) ∧ Below w.heap.size w w' := by
  obtain ⟨H, hH⟩ : ∃ H, sha (flat ss) = H := ⟨_, rfl⟩
  have hsum : ∀ (w : World) (a : Option Addr) (c : Nat), Glob n w → Strs w a ss → Calls Tryd.prog 10 #[.slice a ss.length c] w fun e w' => e = .returned (.agg (tabv (bv H) 32)) ∧ Below w.heap.size w w' := fun w a c h1 h2 => by
    rw [← hH]; exact sum_any n a c ss w h1 h2 (by omega) (by omega)
  have href : ∀ (w : World) (a : Option Addr) (c : Nat), Strs w a ss → Calls Tryd.prog 19 #[.slice a ss.length c] w fun e w' => e = .returned (.agg (tabv (bv H) 32)) ∧ Below w.heap.size w w' := fun w a c h2 => by
    rw [← hH]; exact refSum_any n a c ss w h2 (by omega) (by omega)
  have A1 := hide hsum
  have A2 := hide href
  clear hsum href hH
  go_enter Tryd.func7, Tryd.ntmps7
  go_wp2_with fail
  refine (first_any n _ hG).mono ?_
  rintro e w1 ⟨rfl, hb1⟩
  have hst1 := hst.below hb1
  go_wp2_with fail
  refine (lend_any ad c ss _ hst1 (by omega)).mono ?_
  rintro e w2 ⟨⟨go, cap, rfl, hO2⟩, hb2⟩
  have hst2 := hst1.below hb2
  have kb := hb1.trans (hb2.mono hb1.size)
  have hOB := hO2.block go rfl
  go_wp2_with fail
  refine (A2.out _ ad c hst2).mono ?_
  rintro e w3 ⟨rfl, hb3⟩
  have hst3 := hst2.below hb3
  have hO3 := hO2.below hb3
  have kb := kb.trans (hb3.mono kb.size)
  have hs1 : w.heap.size ≤ w1.heap.size := hb1.size
  clear hst1 hst2 hO2 hb1 hb2 hb3
  have hn := Has.new w3 26 (fun _ => .int .u8 0) 32 _ rfl
  have HN := hide hn
  clear hn
  go_wp2_with (refine wpList_store_part rfl 26 _ _ rfl rfl w3.heap.size 0 (bv H) 32 rfl rfl 26 _ 32 HN.out (by omega) info26 (fun _ _ => rfl) (bv H) (fun i hi => by unfold splice; rw [if_pos (by omega), Nat.sub_zero]) ?_)
  generalize hW : World.setRow (World.alloc w3 _) _ _ = w4
  have jb : Below w3.heap.size w3 w4 := by rw [← hW]; exact below_setRow ((Below.refl _ _).alloc (Nat.le_refl _) _) (Nat.le_refl _) _
  have j4 : Has w4 w3.heap.size 26 (bv H) 32 := by rw [← hW]; exact HN.out.row _ _ rfl
  have jO := hO3.below jb
  have jst := hst3.below jb
  have jbb := kb.trans (jb.mono kb.size)
  have jG := hG.below jbb hG.2.2
  have hgo3 : go < w3.heap.size := (World.ownsRow.lt hO3 go rfl).2
  clear hW HN hO3 hst3 kb jb
  generalize w3.heap.size = g4 at j4 hgo3 ⊢
  generalize w1.heap.size = B1 at jO hOB hs1
  have hq : ∀ w : World, (Op.equalIn 10000 26 (.agg (tabv (bv H) 32)) (.agg (tabv (bv H) 32))).run Tryd.prog w = .ok true w := fun w => by rw [eq26, all_same]
  have hgt := guard26
  refine wp_region_noPanic ?_
  refine wp_region_held_drew (S := fun wx => Glob n wx ∧ Has wx g4 26 (bv H) 32 ∧ StrsO wx B1 (.slice (some ⟨go, 0, none⟩) (ss.length + 1) cap) (ss ++ [markS]) ∧ Strs wx ad ss ∧ Below w.heap.size w wx) (by kernel_rfl) ⟨jG, j4, jO, jst.below (Below.refl w4.heap.size w4).drew, jbb.drew⟩ (fun hHeld => ?_)
  refine takeH 0 (some 13) (.slice (some ⟨go, 0, none⟩) ss.length cap) rfl rfl (by kernel_rfl) (by kernel_rfl) (by kernel_rfl) (fun _ _ _ h => h) (by rfl) (fun w hw => by first | (go_simp; done) | (go_simp; omega) | (go_simp; go_num; done) | rfl) hHeld ?_
  simp only [Act.put, List.setIfInBounds_toArray, List.set_cons_zero, List.set_cons_succ]
  refine takeH 2 (some 15) (.agg (tabv (bv H) 32)) rfl rfl (by kernel_rfl) (by kernel_rfl) (by kernel_rfl) (fun _ _ _ h => h) (by rfl) (fun w hw => run_load_part w 26 _ rfl g4 0 rfl 26 _ 32 32 _ hw.2.1 (by omega) Tryd.underlying26 rfl info26 (bv H) (fun i _ => by rw [Nat.zero_add])) hHeld ?_
  simp only [Act.put, List.setIfInBounds_toArray, List.set_cons_zero, List.set_cons_succ]
  refine wpAnyH_ready (rs := [1]) (by kernel_rfl) (by simp) (AllReadyH.cons rfl (fun K hK => ?_) AllReadyH.nil)
  rw [if_pos (by rfl)]
  go_simp
  refine (A1.out _ _ cap hHeld.1 hHeld.2.2.1.front).mono ?_
  rintro e w5 ⟨rfl, hb5⟩
  try go_wp2_with fail
  refine hK.out _ _ (⟨hHeld.1.below hb5 hHeld.1.2.2, hHeld.2.1.below hb5 hHeld.2.1.lt, hHeld.2.2.1.below hb5, hHeld.2.2.2.1.below hb5, hHeld.2.2.2.2.trans (hb5.mono hHeld.2.2.2.2.size)⟩) (fun hHeld => ?_)
  clear hK K
  refine takeH 3 (some 16) (.bool false) rfl rfl (by kernel_rfl) (by kernel_rfl) (by kernel_rfl) (fun _ _ _ h => h) (by rfl) (fun w hw => by first | (go_simp; done) | (go_simp; omega) | (go_simp; go_num; done) | rfl) hHeld ?_
  simp only [Act.put, List.setIfInBounds_toArray, List.set_cons_zero, List.set_cons_succ]
  refine takeH 4 (some 17) (.bool false) rfl rfl (by kernel_rfl) (by kernel_rfl) (by kernel_rfl) (fun _ _ _ h => h) (by rfl) (fun w hw => by first | (go_simp; done) | (go_simp; omega) | (go_simp; go_num; done) | rfl) hHeld ?_
  simp only [Act.put, List.setIfInBounds_toArray, List.set_cons_zero, List.set_cons_succ]
  refine takeH 5 (some 18) (.slice (some ⟨go, 0, none⟩) ss.length cap) rfl rfl (by kernel_rfl) (by kernel_rfl) (by kernel_rfl) (fun _ _ _ h => h) (by rfl) (fun w hw => by first | (go_simp; done) | (go_simp; omega) | (go_simp; go_num; done) | rfl) hHeld ?_
  simp only [Act.put, List.setIfInBounds_toArray, List.set_cons_zero, List.set_cons_succ]
  refine takeH 7 (some 20) (.agg (tabv (bv H) 32)) rfl rfl (by kernel_rfl) (by kernel_rfl) (by kernel_rfl) (fun _ _ _ h => h) (by rfl) (fun w hw => run_load_part w 26 _ rfl g4 0 rfl 26 _ 32 32 _ hw.2.1 (by omega) Tryd.underlying26 rfl info26 (bv H) (fun i _ => by rw [Nat.zero_add])) hHeld ?_
  simp only [Act.put, List.setIfInBounds_toArray, List.set_cons_zero, List.set_cons_succ]
  refine wpAnyH_ready (rs := [6]) (by kernel_rfl) (by simp) (AllReadyH.cons rfl (fun K hK => ?_) AllReadyH.nil)
  rw [if_pos (by rfl)]
  go_simp
  refine (A1.out _ _ cap hHeld.1 hHeld.2.2.1.front).mono ?_
  rintro e w5 ⟨rfl, hb5⟩
  try go_wp2_with fail
  refine hK.out _ _ (⟨hHeld.1.below hb5 hHeld.1.2.2, hHeld.2.1.below hb5 hHeld.2.1.lt, hHeld.2.2.1.below hb5, hHeld.2.2.2.1.below hb5, hHeld.2.2.2.2.trans (hb5.mono hHeld.2.2.2.2.size)⟩) (fun hHeld => ?_)
  clear hK K
  refine takeH 8 (some 21) (.bool false) rfl rfl (by kernel_rfl) (by kernel_rfl) (by kernel_rfl) (fun _ _ _ h => h) (by rfl) (fun w hw => by first | (go_simp; done) | (go_simp; omega) | (go_simp; go_num; done) | rfl) hHeld ?_
  simp only [Act.put, List.setIfInBounds_toArray, List.set_cons_zero, List.set_cons_succ]
  refine takeH 9 (some 22) (.bool false) rfl rfl (by kernel_rfl) (by kernel_rfl) (by kernel_rfl) (fun _ _ _ h => h) (by rfl) (fun w hw => by first | (go_simp; done) | (go_simp; omega) | (go_simp; go_num; done) | rfl) hHeld ?_
  simp only [Act.put, List.setIfInBounds_toArray, List.set_cons_zero, List.set_cons_succ]
  refine takeH 10 (some 23) (.bool false) rfl rfl (by kernel_rfl) (by kernel_rfl) (by kernel_rfl) (fun _ _ _ h => h) (by rfl) (fun w hw => by first | (go_simp; done) | (go_simp; omega) | (go_simp; go_num; done) | rfl) hHeld ?_
  simp only [Act.put, List.setIfInBounds_toArray, List.set_cons_zero, List.set_cons_succ]
  refine takeH 11 (some 24) (.slice (some ⟨go, 0, none⟩) ss.length cap) rfl rfl (by kernel_rfl) (by kernel_rfl) (by kernel_rfl) (fun _ _ _ h => h) (by rfl) (fun w hw => by first | (go_simp; done) | (go_simp; omega) | (go_simp; go_num; done) | rfl) hHeld ?_
  simp only [Act.put, List.setIfInBounds_toArray, List.set_cons_zero, List.set_cons_succ]
  refine takeH 12 (some 25) (.slice ad ss.length c) rfl rfl (by kernel_rfl) (by kernel_rfl) (by kernel_rfl) (fun _ _ _ h => h) (by rfl) (fun w hw => by first | (go_simp; done) | (go_simp; omega) | (go_simp; go_num; done) | rfl) hHeld ?_
  simp only [Act.put, List.setIfInBounds_toArray, List.set_cons_zero, List.set_cons_succ]
  refine wpAnyH_ready (rs := [13]) (by kernel_rfl) (by simp) (AllReadyH.cons rfl (fun K hK => ?_) AllReadyH.nil)
  rw [if_pos (by rfl)]
  go_simp
  refine (kept_any B1 go cap ad c ss _ hHeld.2.2.1 hHeld.2.2.2.1 (by omega)).mono ?_
  rintro e w5 ⟨rfl, hb5⟩
  try go_wp2_with fail
  refine hK.out _ _ (⟨hHeld.1.below hb5 hHeld.1.2.2, hHeld.2.1.below hb5 hHeld.2.1.lt, hHeld.2.2.1.below hb5, hHeld.2.2.2.1.below hb5, hHeld.2.2.2.2.trans (hb5.mono hHeld.2.2.2.2.size)⟩) (fun hHeld => ?_)
  clear hK K
  refine takeH 14 (some 27) (.bool false) rfl rfl (by kernel_rfl) (by kernel_rfl) (by kernel_rfl) (fun _ _ _ h => h) (by rfl) (fun w hw => by first | (go_simp; done) | (go_simp; omega) | (go_simp; go_num; done) | rfl) hHeld ?_
  simp only [Act.put, List.setIfInBounds_toArray, List.set_cons_zero, List.set_cons_succ]
  refine takeH 15 (some 28) (.bool false) rfl rfl (by kernel_rfl) (by kernel_rfl) (by kernel_rfl) (fun _ _ _ h => h) (by rfl) (fun w hw => by first | (go_simp; done) | (go_simp; omega) | (go_simp; go_num; done) | rfl) hHeld ?_
  simp only [Act.put, List.setIfInBounds_toArray, List.set_cons_zero, List.set_cons_succ]
  refine ⟨by kernel_rfl, ?_⟩
  refine NoPanic.normal ?_
  obtain ⟨iG, i4, iO, ist, ib⟩ := hHeld
  clear jG j4 jO jst jbb
  go_wp2
  have hg4 : g4 < w5.heap.size := i4.lt
  obtain ⟨B5, hB5⟩ : ∃ B5, w5.heap.size = B5 := ⟨_, rfl⟩
  have hB5' : B5 ≤ w5.heap.size := by omega
  rw [hB5] at hg4
  clear hB5 iG ist
  have hI := i4
  go_loopw [6, 5] (fun i v wr => ∃ k : Nat, k ≤ ss.length ∧ i = .int .i64 k ∧ StrsO wr B1 (.slice (some ⟨go, 0, none⟩) (ss.length + 1) cap) (mix ss k) ∧ StrsO wr B5 v ((ss.take k).map xS) ∧ Has wr g4 26 (bv H) 32 ∧ Below w.heap.size w wr ∧ B5 ≤ wr.heap.size) (fun i _ _ => ss.length - (intOf i).toNat)
  case atStart => exact ⟨0, by omega, rfl, by rw [mix_zero]; exact iO, by rw [List.take_zero]; exact StrsO.nil _ _, i4, ib, hB5'⟩
  case round =>
    clear i4 iO ib hB5' hI
    obtain ⟨k, hk, rfl, hO, hN, h4, hb, hBs⟩ := hrel
    by_cases hlt : k < ss.length
    · have hd : decide ((k : Int) < (ss.length : Int)) = true := by simp; omega
      have hle := flat_le ss (k + 1)
      rw [flat_take ss k hlt, List.length_append, str_len] at hle
      have hsz : ss[k].size + 1 ≤ 9223372036854775807 := by omega
      have hml := mix_length ss k
      have co : wr.cell? ⟨go, k, none⟩ = some (.string ss[k]) := by
        rw [hO.cell k (by rw [hml]; omega)]; congr 2; exact mix_at ss k hlt
      have cf := hO.frozen k
      obtain ⟨b, o, had, hbl, hcs⟩ : ∃ b o, ad = some ⟨b, o, none⟩ ∧ b < w.heap.size ∧ ∀ i (h : i < ss.length), w.cell? ⟨b, o + i, none⟩ = some (.string ss[i]) := by
        rcases hst with h | h
        · rw [h] at hlt; exact absurd hlt (by simp)
        · exact h
      have cp : wr.cell? ⟨b, o + k, none⟩ = some (.string ss[k]) := by
        rw [World.cell?_of_block (w := w) (hb.block b hbl)]; exact hcs k hlt
      have hne : b ≠ go := by omega
      have cp2 : (wr.setCell ⟨go, k, none⟩ (.string (xS ss[k]))).cell? ⟨b, o + k, none⟩ = some (.string ss[k]) := by
        rw [World.cell?_of_block (w := wr) (heap_setCell_other wr ⟨go, k, none⟩ b _ hne)]; exact cp
      have hO2 : StrsO (wr.setCell ⟨go, k, none⟩ (.string (xS ss[k]))) B1 (.slice (some ⟨go, 0, none⟩) (ss.length + 1) cap) (mix ss (k + 1)) := by
        have h1 := hO
        unfold StrsO at h1 ⊢
        rw [hml] at h1
        have h2 := (World.ownsRow.stored h1 k (.string (xS ss[k]))).1
        rw [mix_length, ← mix_set ss k hlt, List.map_set]
        exact h2
      have hgr0 : wr.grownBy (wr.setCell ⟨go, k, none⟩ (.string (xS ss[k]))) (some go) := ⟨rfl, rfl, rfl, by simp, fun i hi hne => heap_setCell_other wr ⟨go, k, none⟩ i _ (fun e => hne (by rw [e]))⟩
      have hN2 : StrsO (wr.setCell ⟨go, k, none⟩ (.string (xS ss[k]))) B5 u5 ((ss.take k).map xS) := World.ownsRow.kept hN hgr0 (by
        cases hu : u5.ownBlock with
        | none => exact .inl rfl
        | some q => right; intro e; cases e; have := hN.block go hu; omega)
      have hsub := had
      subst hsub
      have hx : ss[k] ++ { data := #[120] } = xS ss[k] := rfl
      have hk0 : (0 : Int) ≤ (k : Int) := by omega
      have hk1 : (k : Int) < (ss.length : Int) := by omega
      have HO2 := hide hO2
      have HN2 := hide hN2
      clear hO2 hN2 hcs hgr0
      go_wp2_with (at_builtin; refine wpList_append_strsAt (w0 := wr.setCell ⟨go, k, none⟩ (.string (xS ss[k]))) rfl _ _ rfl B5 _ ((ss.take k).map xS) [xS ss[k]] (by rfl) HN2.out (by simp) 1 rfl wr.heap.size (by simp) (by rfl) rfl (by simp; omega) hBs ?_; intro g cap2 w6 hO6 hgr)
      go_roundw
      case rel =>
        have hsb : Below B5 (wr.setCell ⟨go, k, none⟩ (.string (xS ss[k]))) w6 := grown_below (B := B5) hgr hN.block (by simpa using hBs)
        have hb6 : Below w.heap.size w w6 := (hb.setCell (by simp; omega) _).trans (hsb.mono (by omega))
        refine ⟨k + 1, by omega, by go_num, ?_, ?_, (h4.other _ _ (by simp; omega)).below hsb (by omega), hb6, Nat.le_trans hBs (by have := hsb.size; simpa using this)⟩
        · exact World.ownsRow.kept HO2.out hgr (by
            right; intro e
            have e2 : u5.ownBlock = some go := e.symm
            have := hN.block go e2; omega)
        · have e1 : ((ss.take k).map xS).length = k := by simp; omega
          rw [e1] at hO6
          rw [List.take_succ_eq_append_getElem hlt, List.map_append]
          exact hO6
      case measure => simp [intOf]; omega
    · have hkl : k = ss.length := by omega
      subst hkl
      rw [List.take_length] at hN
      rw [mix_all] at hO
      have hlx : (ss.map xS).length = ss.length := by simp
      have hfx := flat_xS ss
      obtain ⟨av, cv, rfl, hsv⟩ := hN.strs
      rw [hlx] at hN ⊢
      have hd : decide ((ss.length : Int) < (ss.length : Int)) = false := by simp
      obtain ⟨H2, hH2⟩ : ∃ H2, sha (flat (ss.map xS)) = H2 := ⟨_, rfl⟩
      have q1 : ∀ (w : World) (a : Option Addr) (c : Nat), Glob n w → Strs w a (ss.map xS) → Calls Tryd.prog 10 #[.slice a ss.length c] w fun e w' => e = .returned (.agg (tabv (bv H2) 32)) ∧ Below w.heap.size w w' := fun w a c h1 h2 => by
        rw [← hH2, ← hlx]; exact sum_any n a c (ss.map xS) w h1 h2 (by omega) (by omega)
      have q2 := refSum_any n av cv (ss.map xS) _ hsv (by omega) (by omega)
      rw [hlx, hH2] at q2
      have Q1 := hide q1
      have Q2 := hide q2
      clear q1 q2 hH2 hsv
      go_wp2_with fail
      refine Q2.out.mono ?_
      rintro e w6 ⟨rfl, hb6⟩
      have hO6 := hO.below hb6
      have h46 := h4.below hb6 h4.lt
      have hb := hb.trans (hb6.mono hb.size)
      have hgo4 : go ≠ g4 := by omega
      clear hO h4 hb6 hN Q2
      go_wp2_with (refine wpList_store_part rfl 26 _ _ rfl rfl g4 0 (bv H2) 32 rfl rfl 26 _ 32 h46 (by omega) info26 (fun _ _ => rfl) (bv H2) (fun i hi => by unfold splice; rw [if_pos (by omega), Nat.sub_zero]) ?_)
      have m4 : Has (w6.setRow g4 (tabv (bv H2) 32)) g4 26 (bv H2) 32 := h46.row _ _ rfl
      have mb : Below w.heap.size w (w6.setRow g4 (tabv (bv H2) 32)) := below_setRow hb (by omega) _
      have mO : StrsO (w6.setRow g4 (tabv (bv H2) 32)) B1 (.slice (some ⟨go, 0, none⟩) (ss.length + 1) cap) (ss.map xS ++ [markS]) := World.ownsRow.kept (row := some g4) hO6 ⟨rfl, rfl, rfl, by simp, fun i hi hne => setRow_other _ g4 i _ (fun e => hne (by rw [e]))⟩ (.inr (by simp [Value.ownBlock]; exact hgo4))
      have mG := hG.below mb hG.2.2
      clear h46 hO6 hb
      generalize World.setRow _ _ _ = W at m4 mb mO mG ⊢
      have hq2 : ∀ w : World, (Op.equalIn 10000 26 (.agg (tabv (bv H2) 32)) (.agg (tabv (bv H2) 32))).run Tryd.prog w = .ok true w := fun w => by rw [eq26, all_same]
      refine wp_region_noPanic ?_
      refine wp_region_held_drew (S := fun wx => Glob n wx ∧ Has wx g4 26 (bv H2) 32 ∧ StrsO wx B1 (.slice (some ⟨go, 0, none⟩) (ss.length + 1) cap) (ss.map xS ++ [markS]) ∧ Below w.heap.size w wx) (by kernel_rfl) ⟨mG, m4, mO, mb.drew⟩ (fun hHeld => ?_)
      refine takeH 0 (some 53) (.slice (some ⟨go, 0, none⟩) ss.length cap) rfl rfl (by kernel_rfl) (by kernel_rfl) (by kernel_rfl) (fun _ _ _ h => h) (by rfl) (fun w hw => by first | (go_simp; done) | (go_simp; omega) | (go_simp; go_num; done) | rfl) hHeld ?_
      simp only [Act.put, List.setIfInBounds_toArray, List.set_cons_zero, List.set_cons_succ]
      refine takeH 2 (some 55) (.agg (tabv (bv H2) 32)) rfl rfl (by kernel_rfl) (by kernel_rfl) (by kernel_rfl) (fun _ _ _ h => h) (by rfl) (fun w hw => run_load_part w 26 _ rfl g4 0 rfl 26 _ 32 32 _ hw.2.1 (by omega) Tryd.underlying26 rfl info26 (bv H2) (fun i _ => by rw [Nat.zero_add])) hHeld ?_
      simp only [Act.put, List.setIfInBounds_toArray, List.set_cons_zero, List.set_cons_succ]
      refine wpAnyH_ready (rs := [1]) (by kernel_rfl) (by simp) (AllReadyH.cons rfl (fun K hK => ?_) AllReadyH.nil)
      rw [if_pos (by rfl)]
      go_simp
      refine (Q1.out _ _ cap hHeld.1 hHeld.2.2.1.front).mono ?_
      rintro e w7 ⟨rfl, hb7⟩
      try go_wp2_with fail
      refine hK.out _ _ (⟨hHeld.1.below hb7 hHeld.1.2.2, hHeld.2.1.below hb7 hHeld.2.1.lt, hHeld.2.2.1.below hb7, hHeld.2.2.2.trans (hb7.mono hHeld.2.2.2.size)⟩) (fun hHeld => ?_)
      clear hK K
      refine takeH 3 (some 56) (.bool true) rfl rfl (by kernel_rfl) (by kernel_rfl) (by kernel_rfl) (fun _ _ _ h => h) (by rfl) (fun w hw => by first | (go_simp; done) | (go_simp; omega) | (go_simp; go_num; done) | rfl) hHeld ?_
      simp only [Act.put, List.setIfInBounds_toArray, List.set_cons_zero, List.set_cons_succ]
      refine takeH 4 (some 2) (.bool true) rfl rfl (by kernel_rfl) (by kernel_rfl) (by kernel_rfl) (fun _ _ _ h => h) (by rfl) (fun w hw => by first | (go_simp; done) | (go_simp; omega) | (go_simp; go_num; done) | rfl) hHeld ?_
      simp only [Act.put, List.setIfInBounds_toArray, List.set_cons_zero, List.set_cons_succ]
      refine ⟨by kernel_rfl, ?_⟩
      refine NoPanic.normal ?_
      go_wp2
      go_ret
      exact ⟨rfl, hHeld.2.2.2⟩
end Go.Proofs.YtkhogpnmkonajaaDoor
