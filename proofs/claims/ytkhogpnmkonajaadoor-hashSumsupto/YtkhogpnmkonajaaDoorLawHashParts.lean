/-
  Slices of texts that the call makes. The walk of HashParts.
-/
import Derived.Test.YtkhogpnmkonajaaDoorBytesText
import Derived.Test.YtkhogpnmkonajaaDoorLawHashDigits
namespace Go.Proofs.YtkhogpnmkonajaaDoor
open Go.RowKit S
/-- v is a slice of the texts ss, in memory of the call's own, from block B on. -/
def StrsO (w : World) (B : Nat) (v : Value) (ss : List ByteArray) : Prop := w.ownsRow B 9 1 v ss.length (ss.map Value.string)
theorem info9 : (Tryd.prog.info? 9).map (fun i => (i.zero, i.size, i.bytes)) = some (some (.string { data := #[] }), 1, 16) := by kernel_rfl
theorem StrsO.nil (w : World) (B : Nat) : StrsO w B (.slice none 0 0) [] := World.ownsRow_nil w B 9 1
theorem StrsO.block {w : World} {B : Nat} {v : Value} {l : List ByteArray} (h : StrsO w B v l) : ∀ k, v.ownBlock = some k → B ≤ k := fun k hk => (World.ownsRow.lt h k hk).1
theorem StrsO.below {w w' : World} {B : Nat} {v : Value} {l : List ByteArray} (h : StrsO w B v l) (hb : Below w.heap.size w w') : StrsO w' B v l :=
  World.ownsRow.kept (row := none) h ⟨hb.os, hb.tape, hb.output, hb.size, fun i hi _ => hb.block i hi⟩ (by cases v.ownBlock <;> simp)
/-- As what Sum takes. -/
theorem StrsO.strs {w : World} {B : Nat} {v : Value} {l : List ByteArray} (h : StrsO w B v l) : ∃ a cap, v = .slice a l.length cap ∧ Strs w a l := by
  rcases h.2 with ⟨rfl, h0⟩ | ⟨g, cap, cur, rfl, hb, hg, hnc, hcm, hcs, htake⟩
  · have : l = [] := List.length_eq_zero_iff.1 h0
    subst this
    exact ⟨none, 0, rfl, .inl rfl⟩
  · refine ⟨_, cap, rfl, .inr ⟨g, 0, rfl, (Array.getElem?_eq_some_iff.1 hg).1, fun i hi => ?_⟩⟩
    rw [Nat.zero_add, cell_of_row w g i cur 9 (0, 0) hg]
    rw [Nat.mul_one] at htake
    have e : (cur.toList.take l.length)[i]? = (l.map Value.string)[i]? := by rw [htake]
    rw [List.getElem?_take_of_lt hi, List.getElem?_map, List.getElem?_eq_getElem hi, Array.getElem?_toList] at e
    exact e
theorem wpList_append_strs {ops : Array Oper} {rest : List Oper} {o : Oper} {a : Act} {w w0 : World} {Q : Exit → Act → World → Prop} (hgd : o.guard = none) (s x : Operand)
    (ho : o.op = .call { callee := .builtin .append, args := #[s, x], argTypes := #[24, 24] }) (B : Nat) (v : Value) (l ns : List ByteArray) (hs : a.eval s = v) (hown : StrsO w0 B v l) (hns : 0 < ns.length) (m : Nat) (hm : ns.length = m)
    (hx : a.eval x = .slice (some ⟨w0.heap.size, 0, none⟩) m m) (hw : w = w0.alloc (.cells (ns.map Value.string).toArray 9)) (hlen : (l.length + ns.length) * 16 ≤ 140737488355328) (hB : B ≤ w0.heap.size)
    (h : ∀ g cap w', StrsO w' B (.slice (some ⟨g, 0, none⟩) (l.length + m) cap) (l ++ ns) → w0.grownBy w' v.ownBlock → (v.ownBlock = some g ∨ g = w0.heap.size + 1) → wpList Tryd.prog ops Q rest (a.put o.dst (.slice (some ⟨g, 0, none⟩) (l.length + m) cap)) w') : wpList Tryd.prog ops Q (o :: rest) a w := by
  subst hw hm
  have hh := info9
  cases hq : Tryd.prog.info? 9 with
  | none => rw [hq] at hh; cases hh
  | some i =>
    rw [hq] at hh
    simp only [Option.map_some, Option.some.injEq, Prod.mk.injEq] at hh
    obtain ⟨hz0, hz1, hz2⟩ := hh
    have hown' : (w0.alloc (.cells (ns.map Value.string).toArray 9)).ownsRow B 9 1 v l.length (l.map Value.string) := World.ownsRow.kept hown (grown_alloc w0 _ none) (by cases v.ownBlock <;> simp)
    refine wpList_append_lies (P := Tryd.prog) _ hgd s x 24 ho B 9 i (.string { data := #[] }) 1 16 Tryd.underlying24 hq hz0 hz1 hz2 rfl (by omega) v l.length (l.map Value.string) hs hown' ⟨w0.heap.size, 0, none⟩ ns.length ns.length (ns.map Value.string) hx (by simp) ?_ ?_ hns (by unfold maxLen; omega) hlen (by simp; omega) (w0.heap.size + 1) (by simp) ?_
    · intro j u hu
      exact World.news_of_block (heap_alloc_new w0 _) j u (by simpa using hu)
    · intro u hu
      obtain ⟨c, _, rfl⟩ := List.mem_map.1 hu
      rfl
    · intro g cap w' h1 h2 h3 h4
      refine h g cap w' ?_ ((grown_alloc w0 _ v.ownBlock).trans h2) h3
      unfold StrsO
      rw [List.length_append, List.map_append]
      exact h1
/-- A text byte by byte, with empty ones between. -/
def cuts (s : ByteArray) : Nat → List ByteArray
  | 0 => []
  | k + 1 => cuts s k ++ [s.extract k (k + 1), { data := #[] }]
theorem cuts_length (s : ByteArray) (k : Nat) : (cuts s k).length = 2 * k := by
  induction k with
  | zero => rfl
  | succ k ih => simp only [cuts, List.length_append, ih]; simp; omega
theorem flat_append (a b : List ByteArray) : flat (a ++ b) = flat a ++ flat b := by unfold flat; rw [List.map_append, List.flatten_append]
theorem cuts_flat (s : ByteArray) (k : Nat) (h : k ≤ s.size) : flat (cuts s k) = s.data.toList.take k := by
  induction k with
  | zero => rfl
  | succ k ih =>
    have hl : k < s.data.toList.length := by rw [str_len]; omega
    have e : (s.extract k (k + 1)).data.toList = [s.data.toList[k]] := by
      rw [ByteArray.data_extract, Array.toList_extract]
      simp only [List.extract_eq_take_drop, Nat.add_sub_cancel_left]
      rw [List.drop_eq_getElem_cons hl]
      rfl
    simp only [cuts]
    rw [flat_append, ih (by omega), flat_two, e, List.take_succ_eq_append_getElem hl]
    simp
theorem take_drop_flat (s : ByteArray) (p : Nat) : flat [s.extract 0 p, s.extract p s.size] = s.data.toList := by
  rw [flat_two, extract_list]
  have : (s.extract 0 p).data.toList = s.data.toList.take p := by
    rw [ByteArray.data_extract, Array.toList_extract]; simp [List.extract_eq_take_drop]
  rw [this, List.take_append_drop]
attribute [local go_sem ↓] Go.wp_at_zero Go.wp_at_succ
set_option maxHeartbeats 1600000 in
theorem hashParts_num (n : Num) (s : ByteArray) (z : Int) (w : World) (hG : Glob n w) (hs : s.size ≤ 1048576) :
    Calls Tryd.prog 3 #[.string s, .int .i64 z] w fun e w' => e = .returned (.bool true) ∧ Below w.heap.size w w' := by
  obtain ⟨p, hp, hpl⟩ := at_nat z (s.size + 1) (by omega)
  have hp' : wrap64 ((IntKind.u64.wrap z).tmod ((s.size : Int) + 1)) = (p : Int) := hp
  clear hp
  go_enter Tryd.func3, Tryd.ntmps3
  go_wp2_with fail
  refine (first_any n _ hG).mono ?_
  rintro e w1 ⟨rfl, hb1⟩
  go_wp2
  rw [hp']
  clear hp'
  go_loopw [6, 5] (fun i v wr => ∃ k : Nat, k ≤ s.size ∧ i = .int .i64 k ∧ StrsO wr w.heap.size v (cuts s k) ∧ Below w.heap.size w wr) (fun i _ _ => s.size - (intOf i).toNat)
  case atStart => exact ⟨0, by omega, rfl, StrsO.nil _ _, hb1⟩
  case round =>
    clear hb1
    obtain ⟨k, hk, rfl, hO, gb⟩ := hrel
    have gs := gb.size
    have hcl := cuts_length s k
    by_cases hlt : k < s.size
    · have hd : decide ((k : Int) < (s.size : Int)) = true := by simp; omega
      go_wp2_with (at_builtin; refine wpList_append_strs rfl _ _ rfl w.heap.size _ (cuts s k) [s.extract k (k + 1), { data := #[] }] (by rfl) hO (by simp) 2 rfl (by rfl) rfl (by rw [hcl]; simp; omega) gs ?_; intro g cap w5 hO5 hgr hg)
      go_roundw
      case rel =>
        have hbl := grown_below (B := w.heap.size) hgr hO.block gs
        exact ⟨k + 1, by omega, by go_num, by rw [hcl] at hO5; exact hO5, gb.trans hbl⟩
      case measure => simp [intOf]; omega
    · have hks : k = s.size := by omega
      subst hks
      obtain ⟨ao, co, rfl, _⟩ := hO.strs
      rw [hcl] at hO ⊢
      have hd : decide ((s.size : Int) < (s.size : Int)) = false := by simp
      obtain ⟨H, hH⟩ : ∃ H, sha s.data.toList = H := ⟨_, rfl⟩
      have q1 : ∀ w' : World, Glob n w' → Calls Tryd.prog 10 #[.slice (some ⟨w'.heap.size, 0, none⟩) 1 1] (w'.alloc (.cells #[.string (s)] 9)) fun e w2 => e = .returned (.agg (tabv (bv H) 32)) ∧ Below w'.heap.size w' w2 := fun w' h => by
        have mb : Below w'.heap.size w' (w'.alloc (.cells #[.string (s)] 9)) := (Below.refl _ _).alloc (Nat.le_refl _) _
        have hf : flat [s] = s.data.toList := by simp [flat]
        refine (sum_any n (some ⟨w'.heap.size, 0, none⟩) 1 [s] _ (h.below mb h.2.2) (Strs.mk w' 9 [s]) (by rw [hf, str_len]; omega) (by simp)).mono ?_
        rintro e w5 ⟨rfl, hb5⟩
        refine ⟨?_, mb.trans (hb5.mono mb.size)⟩
        rw [hf, hH]
      have q2 : ∀ w' : World, Glob n w' → Calls Tryd.prog 10 #[.slice (some ⟨w'.heap.size, 0, none⟩) 2 2] (w'.alloc (.cells #[.string (s.extract 0 p), .string (s.extract p s.size)] 9)) fun e w2 => e = .returned (.agg (tabv (bv H) 32)) ∧ Below w'.heap.size w' w2 := fun w' h => by
        have mb : Below w'.heap.size w' (w'.alloc (.cells #[.string (s.extract 0 p), .string (s.extract p s.size)] 9)) := (Below.refl _ _).alloc (Nat.le_refl _) _
        have hf : flat [s.extract 0 p, s.extract p s.size] = s.data.toList := take_drop_flat s p
        refine (sum_any n (some ⟨w'.heap.size, 0, none⟩) 2 [s.extract 0 p, s.extract p s.size] _ (h.below mb h.2.2) (Strs.mk w' 9 [s.extract 0 p, s.extract p s.size]) (by rw [hf, str_len]; omega) (by simp)).mono ?_
        rintro e w5 ⟨rfl, hb5⟩
        refine ⟨?_, mb.trans (hb5.mono mb.size)⟩
        rw [hf, hH]
      have q3 : ∀ w' : World, Glob n w' → Calls Tryd.prog 10 #[.slice (some ⟨w'.heap.size, 0, none⟩) 2 2] (w'.alloc (.cells #[.string ({ data := #[] }), .string (s)] 9)) fun e w2 => e = .returned (.agg (tabv (bv H) 32)) ∧ Below w'.heap.size w' w2 := fun w' h => by
        have mb : Below w'.heap.size w' (w'.alloc (.cells #[.string ({ data := #[] }), .string (s)] 9)) := (Below.refl _ _).alloc (Nat.le_refl _) _
        have hf : flat [{ data := #[] }, s] = s.data.toList := by simp [flat]
        refine (sum_any n (some ⟨w'.heap.size, 0, none⟩) 2 [{ data := #[] }, s] _ (h.below mb h.2.2) (Strs.mk w' 9 [{ data := #[] }, s]) (by rw [hf, str_len]; omega) (by simp)).mono ?_
        rintro e w5 ⟨rfl, hb5⟩
        refine ⟨?_, mb.trans (hb5.mono mb.size)⟩
        rw [hf, hH]
      have q4 : ∀ w' : World, Glob n w' → StrsO w' w.heap.size (.slice ao (2 * s.size) co) (cuts s s.size) → Calls Tryd.prog 10 #[.slice ao (2 * s.size) co] w' fun e w2 => e = .returned (.agg (tabv (bv H) 32)) ∧ Below w'.heap.size w' w2 := fun w' h hO => by
        obtain ⟨a', c', hv, hst⟩ := hO.strs
        have hl := cuts_length s s.size
        rw [hl] at hv
        cases hv
        have hf := cuts_flat s s.size (Nat.le_refl _)
        rw [← str_len, List.take_length] at hf
        rw [str_len] at hf
        have := sum_any n ao co (cuts s s.size) w' h hst (by rw [hf, str_len]; omega) (by omega)
        rw [hf, hl, hH] at this
        exact this
      have Q1 := hide q1
      have Q2 := hide q2
      have Q3 := hide q3
      have Q4 := hide q4
      clear q1 q2 q3 q4 hH
      have gG := hG.below gb hG.2.2
      go_wp2_with fail
      refine (Q1.out _ gG).mono ?_
      rintro e w2 ⟨rfl, hb2⟩
      have kO := hO.below hb2
      have kb := gb.trans (hb2.mono gb.size)
      have kG := hG.below kb hG.2.2
      clear hO gb gG hb2
      have hn := Has.new w2 26 (fun _ => .int .u8 0) 32 _ rfl
      have HN := hide hn
      clear hn
      go_wp2_with (refine wpList_store_part rfl 26 _ _ rfl rfl w2.heap.size 0 (bv H) 32 rfl rfl 26 _ 32 HN.out (by omega) info26 (fun _ _ => rfl) (bv H) (fun i hi => by unfold splice; rw [if_pos (by omega), Nat.sub_zero]) ?_)
      generalize hW : World.setRow (World.alloc w2 _) _ _ = w3
      have jb : Below w2.heap.size w2 w3 := by rw [← hW]; exact below_setRow ((Below.refl _ _).alloc (Nat.le_refl _) _) (Nat.le_refl _) _
      have j2 : Has w3 w2.heap.size 26 (bv H) 32 := by rw [← hW]; exact HN.out.row _ _ rfl
      have jO := kO.below jb
      have jbb := kb.trans (jb.mono kb.size)
      have jG := hG.below jbb hG.2.2
      clear hW HN kO kb kG jb
      generalize w2.heap.size = g2 at j2 ⊢
      have hq : ∀ w : World, (Op.equalIn 10000 26 (.agg (tabv (bv H) 32)) (.agg (tabv (bv H) 32))).run Tryd.prog w = .ok true w := fun w => by rw [eq26, all_same]
      have hgt := guard26
      have hp0 : (0 : Int) ≤ (p : Int) := by omega
      have hp1 : (p : Int) ≤ (s.size : Int) := by omega
      refine wp_region_noPanic ?_
      refine wp_region_held_drew (S := fun wx => Glob n wx ∧ Has wx g2 26 (bv H) 32 ∧ StrsO wx w.heap.size (.slice ao (2 * s.size) co) (cuts s s.size) ∧ Below w.heap.size w wx) (by kernel_rfl) ⟨jG, j2, jO, jbb.drew⟩ (fun hHeld => ?_)
      refine takeH 0 (some 35) (.string s) rfl rfl (by kernel_rfl) (by kernel_rfl) (by kernel_rfl) (fun _ _ _ h => h) (by rfl) (fun w hw => by first | (go_simp; done) | (go_simp; omega) | (go_simp; go_num; done) | rfl) hHeld ?_
      simp only [Act.put, List.setIfInBounds_toArray, List.set_cons_zero, List.set_cons_succ]
      refine takeH 1 (some 36) (.int .i64 p) rfl rfl (by kernel_rfl) (by kernel_rfl) (by kernel_rfl) (fun _ _ _ h => h) (by rfl) (fun w hw => by first | (go_simp; done) | (go_simp; omega) | (go_simp; go_num; done) | rfl) hHeld ?_
      simp only [Act.put, List.setIfInBounds_toArray, List.set_cons_zero, List.set_cons_succ]
      refine takeH 2 (some 37) (.string (s.extract 0 p)) rfl rfl (by kernel_rfl) (by kernel_rfl) (by kernel_rfl) (fun _ _ _ h => h) (by rfl) (fun w hw => by first | (go_simp; done) | (go_simp; omega) | (go_simp; go_num; done) | rfl) hHeld ?_
      simp only [Act.put, List.setIfInBounds_toArray, List.set_cons_zero, List.set_cons_succ]
      refine takeH 3 (some 38) (.string s) rfl rfl (by kernel_rfl) (by kernel_rfl) (by kernel_rfl) (fun _ _ _ h => h) (by rfl) (fun w hw => by first | (go_simp; done) | (go_simp; omega) | (go_simp; go_num; done) | rfl) hHeld ?_
      simp only [Act.put, List.setIfInBounds_toArray, List.set_cons_zero, List.set_cons_succ]
      refine takeH 4 (some 39) (.int .i64 p) rfl rfl (by kernel_rfl) (by kernel_rfl) (by kernel_rfl) (fun _ _ _ h => h) (by rfl) (fun w hw => by first | (go_simp; done) | (go_simp; omega) | (go_simp; go_num; done) | rfl) hHeld ?_
      simp only [Act.put, List.setIfInBounds_toArray, List.set_cons_zero, List.set_cons_succ]
      refine takeH 5 (some 40) (.string (s.extract p s.size)) rfl rfl (by kernel_rfl) (by kernel_rfl) (by kernel_rfl) (fun _ _ _ h => h) (by rfl) (fun w hw => by first | (go_simp; done) | (go_simp; omega) | (go_simp; go_num; done) | rfl) hHeld ?_
      simp only [Act.put, List.setIfInBounds_toArray, List.set_cons_zero, List.set_cons_succ]
      refine takeH 8 (some 43) (.agg (tabv (bv H) 32)) rfl rfl (by kernel_rfl) (by kernel_rfl) (by kernel_rfl) (fun _ _ _ h => h) (by rfl) (fun w hw => run_load_part w 26 _ rfl g2 0 rfl 26 _ 32 32 _ hw.2.1 (by omega) Tryd.underlying26 rfl info26 (bv H) (fun i _ => by rw [Nat.zero_add])) hHeld ?_
      simp only [Act.put, List.setIfInBounds_toArray, List.set_cons_zero, List.set_cons_succ]
      refine wpAnyH_ready (rs := [6]) (by kernel_rfl) (by simp) (AllReadyH.cons rfl (fun K hK => ?_) AllReadyH.nil)
      rw [if_pos (by rfl)]
      go_simp
      have hmb : ∀ wz : World, Below wz.heap.size wz (wz.alloc (.cells #[.string (s.extract 0 p), .string (s.extract p s.size)] 9)) := fun wz => (Below.refl _ _).alloc (Nat.le_refl _) _
      have hs5 := Q2.out _ hHeld.1
      have S5 := hide hs5
      clear hs5
      have hH5 := hHeld
      refine hK.out _ _ ⟨hHeld.1.below (hmb _) hHeld.1.2.2, hHeld.2.1.old _, hHeld.2.2.1.below (hmb _), hHeld.2.2.2.alloc hHeld.2.2.2.size _⟩ (fun hHeld => ?_)
      clear hK K hHeld hmb
      have hHeld := hH5
      refine wpAnyH_ready (rs := [7]) (by kernel_rfl) (by simp) (AllReadyH.cons rfl (fun K hK => ?_) AllReadyH.nil)
      rw [if_pos (by rfl)]
      go_simp
      refine (S5.out).mono ?_
      rintro e w5 ⟨rfl, hb5⟩
      try go_wp2_with fail
      refine hK.out _ _ (⟨hHeld.1.below hb5 hHeld.1.2.2, hHeld.2.1.below hb5 hHeld.2.1.lt, hHeld.2.2.1.below hb5, hHeld.2.2.2.trans (hb5.mono hHeld.2.2.2.size)⟩) (fun hHeld => ?_)
      clear hK K
      clear S5 hH5
      refine takeH 9 (some 44) (.bool true) rfl rfl (by kernel_rfl) (by kernel_rfl) (by kernel_rfl) (fun _ _ _ h => h) (by rfl) (fun w hw => by first | (go_simp; done) | (go_simp; omega) | (go_simp; go_num; done) | rfl) hHeld ?_
      simp only [Act.put, List.setIfInBounds_toArray, List.set_cons_zero, List.set_cons_succ]
      refine takeH 10 (some 45) (.bool true) rfl rfl (by kernel_rfl) (by kernel_rfl) (by kernel_rfl) (fun _ _ _ h => h) (by rfl) (fun w hw => by first | (go_simp; done) | (go_simp; omega) | (go_simp; go_num; done) | rfl) hHeld ?_
      simp only [Act.put, List.setIfInBounds_toArray, List.set_cons_zero, List.set_cons_succ]
      refine takeH 11 (some 46) (.string s) rfl rfl (by kernel_rfl) (by kernel_rfl) (by kernel_rfl) (fun _ _ _ h => h) (by rfl) (fun w hw => by first | (go_simp; done) | (go_simp; omega) | (go_simp; go_num; done) | rfl) hHeld ?_
      simp only [Act.put, List.setIfInBounds_toArray, List.set_cons_zero, List.set_cons_succ]
      refine takeH 14 (some 49) (.agg (tabv (bv H) 32)) rfl rfl (by kernel_rfl) (by kernel_rfl) (by kernel_rfl) (fun _ _ _ h => h) (by rfl) (fun w hw => run_load_part w 26 _ rfl g2 0 rfl 26 _ 32 32 _ hw.2.1 (by omega) Tryd.underlying26 rfl info26 (bv H) (fun i _ => by rw [Nat.zero_add])) hHeld ?_
      simp only [Act.put, List.setIfInBounds_toArray, List.set_cons_zero, List.set_cons_succ]
      refine wpAnyH_ready (rs := [12]) (by kernel_rfl) (by simp) (AllReadyH.cons rfl (fun K hK => ?_) AllReadyH.nil)
      rw [if_pos (by rfl)]
      go_simp
      have hmb : ∀ wz : World, Below wz.heap.size wz (wz.alloc (.cells #[.string ({ data := #[] }), .string (s)] 9)) := fun wz => (Below.refl _ _).alloc (Nat.le_refl _) _
      have hs5 := Q3.out _ hHeld.1
      have S5 := hide hs5
      clear hs5
      have hH5 := hHeld
      refine hK.out _ _ ⟨hHeld.1.below (hmb _) hHeld.1.2.2, hHeld.2.1.old _, hHeld.2.2.1.below (hmb _), hHeld.2.2.2.alloc hHeld.2.2.2.size _⟩ (fun hHeld => ?_)
      clear hK K hHeld hmb
      have hHeld := hH5
      refine wpAnyH_ready (rs := [13]) (by kernel_rfl) (by simp) (AllReadyH.cons rfl (fun K hK => ?_) AllReadyH.nil)
      rw [if_pos (by rfl)]
      go_simp
      refine (S5.out).mono ?_
      rintro e w5 ⟨rfl, hb5⟩
      try go_wp2_with fail
      refine hK.out _ _ (⟨hHeld.1.below hb5 hHeld.1.2.2, hHeld.2.1.below hb5 hHeld.2.1.lt, hHeld.2.2.1.below hb5, hHeld.2.2.2.trans (hb5.mono hHeld.2.2.2.size)⟩) (fun hHeld => ?_)
      clear hK K
      clear S5 hH5
      refine takeH 15 (some 50) (.bool true) rfl rfl (by kernel_rfl) (by kernel_rfl) (by kernel_rfl) (fun _ _ _ h => h) (by rfl) (fun w hw => by first | (go_simp; done) | (go_simp; omega) | (go_simp; go_num; done) | rfl) hHeld ?_
      simp only [Act.put, List.setIfInBounds_toArray, List.set_cons_zero, List.set_cons_succ]
      refine takeH 16 (some 51) (.bool true) rfl rfl (by kernel_rfl) (by kernel_rfl) (by kernel_rfl) (fun _ _ _ h => h) (by rfl) (fun w hw => by first | (go_simp; done) | (go_simp; omega) | (go_simp; go_num; done) | rfl) hHeld ?_
      simp only [Act.put, List.setIfInBounds_toArray, List.set_cons_zero, List.set_cons_succ]
      refine takeH 17 (some 52) (.bool true) rfl rfl (by kernel_rfl) (by kernel_rfl) (by kernel_rfl) (fun _ _ _ h => h) (by rfl) (fun w hw => by first | (go_simp; done) | (go_simp; omega) | (go_simp; go_num; done) | rfl) hHeld ?_
      simp only [Act.put, List.setIfInBounds_toArray, List.set_cons_zero, List.set_cons_succ]
      refine takeH 18 (some 53) (.slice ao (2 * s.size) co) rfl rfl (by kernel_rfl) (by kernel_rfl) (by kernel_rfl) (fun _ _ _ h => h) (by rfl) (fun w hw => by first | (go_simp; done) | (go_simp; omega) | (go_simp; go_num; done) | rfl) hHeld ?_
      simp only [Act.put, List.setIfInBounds_toArray, List.set_cons_zero, List.set_cons_succ]
      refine takeH 20 (some 55) (.agg (tabv (bv H) 32)) rfl rfl (by kernel_rfl) (by kernel_rfl) (by kernel_rfl) (fun _ _ _ h => h) (by rfl) (fun w hw => run_load_part w 26 _ rfl g2 0 rfl 26 _ 32 32 _ hw.2.1 (by omega) Tryd.underlying26 rfl info26 (bv H) (fun i _ => by rw [Nat.zero_add])) hHeld ?_
      simp only [Act.put, List.setIfInBounds_toArray, List.set_cons_zero, List.set_cons_succ]
      refine wpAnyH_ready (rs := [19]) (by kernel_rfl) (by simp) (AllReadyH.cons rfl (fun K hK => ?_) AllReadyH.nil)
      rw [if_pos (by rfl)]
      go_simp
      refine (Q4.out _ hHeld.1 hHeld.2.2.1).mono ?_
      rintro e w5 ⟨rfl, hb5⟩
      try go_wp2_with fail
      refine hK.out _ _ (⟨hHeld.1.below hb5 hHeld.1.2.2, hHeld.2.1.below hb5 hHeld.2.1.lt, hHeld.2.2.1.below hb5, hHeld.2.2.2.trans (hb5.mono hHeld.2.2.2.size)⟩) (fun hHeld => ?_)
      clear hK K
      refine takeH 21 (some 56) (.bool true) rfl rfl (by kernel_rfl) (by kernel_rfl) (by kernel_rfl) (fun _ _ _ h => h) (by rfl) (fun w hw => by first | (go_simp; done) | (go_simp; omega) | (go_simp; go_num; done) | rfl) hHeld ?_
      simp only [Act.put, List.setIfInBounds_toArray, List.set_cons_zero, List.set_cons_succ]
      refine takeH 22 (some 57) (.bool true) rfl rfl (by kernel_rfl) (by kernel_rfl) (by kernel_rfl) (fun _ _ _ h => h) (by rfl) (fun w hw => by first | (go_simp; done) | (go_simp; omega) | (go_simp; go_num; done) | rfl) hHeld ?_
      simp only [Act.put, List.setIfInBounds_toArray, List.set_cons_zero, List.set_cons_succ]
      refine takeH 23 (some 4) (.bool true) rfl rfl (by kernel_rfl) (by kernel_rfl) (by kernel_rfl) (fun _ _ _ h => h) (by rfl) (fun w hw => by first | (go_simp; done) | (go_simp; omega) | (go_simp; go_num; done) | rfl) hHeld ?_
      simp only [Act.put, List.setIfInBounds_toArray, List.set_cons_zero, List.set_cons_succ]
      refine ⟨by kernel_rfl, ?_⟩
      refine NoPanic.normal ?_
      go_wp2
      go_ret
      exact ⟨rfl, hHeld.2.2.2⟩
theorem hashParts_walk (n : Num) (s : ByteArray) (z : Int) (w : World) (hG : Glob n w) (_hs : s.size ≤ 140737488351232) (hk : s.data.toList.length + 1 + (1 + 0) ≤ 1048576) :
    Calls Tryd.prog 3 #[.string s, .int .i64 z] w fun e w' => e = .returned (.bool true) ∧ Below w.heap.size w w' := hashParts_num n s z w hG (by rw [str_len] at hk; omega)
end Go.Proofs.YtkhogpnmkonajaaDoor
