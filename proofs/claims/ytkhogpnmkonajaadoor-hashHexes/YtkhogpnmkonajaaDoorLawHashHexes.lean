/-
  The walk of HashHexes.
-/
import Derived.Test.YtkhogpnmkonajaaDoorRefParse
namespace Go.Proofs.YtkhogpnmkonajaaDoor
open Go.RowKit S
theorem wpList_load_want {P : Program} {ops : Array Oper} {rest : List Oper} {o : Oper} {a : Act} {w : World} {Q : Exit → Act → World → Prop} (hw : Region.wanted o (yielded ops a.tmps) = true) (ty : TypeId) (x : Operand) (ho : o.op = .load ty x)
    (g of : Nat) (hx : a.eval x = .pointer (some ⟨g, of, none⟩)) (t : TypeId) (f : Nat → Value) (M m : Nat) (d : TypeDesc) (hg : Has w g t f M) (hm : of + m ≤ M)
    (hu : P.underlying ty = some d) (hd : (match d with | .struct _ | .array _ _ => true | _ => false) = true) (hi : (P.info? ty).map (·.size) = some m)
    (f' : Nat → Value) (hf : ∀ i, i < m → f (of + i) = f' i)
    (h : wpList P ops Q rest (a.put o.dst (.agg (tabv f' m))) w) : wpList P ops Q (o :: rest) a w :=
  wpList_step fun K hK => by rw [if_pos hw]; exact wp_load_part ty x ho g of hx t f M m d hg hm hu hd hi (hK _ _ (by rw [tabv_congr _ f' m hf]; exact h))
theorem parse_both (s : ByteArray) (hs : s.size ≤ 140737488355328) : ∃ (A : Nat → UInt8) (E : Int), (∀ w : World, Calls Tryd.prog 15 #[.string s] w fun e w' => e = .returned (.tuple #[.agg (tabv (bv A) 32), .int .i64 E]) ∧ Below w.heap.size w w') ∧
    (∀ w : World, Calls Tryd.prog 16 #[.string s] w fun e w' => e = .returned (.tuple #[.agg (tabv (bv A) 32), .int .i64 E]) ∧ Below w.heap.size w w') ∧ ((E = 0 ∧ strOf (hexd A) 64 = s) ∨ E = 4) := by
  by_cases hg : Good s.data.toList
  · refine ⟨pv s.data.toList, 0, fun w => (parse_any s w).mono ?_, fun w => (refParse_any s w hs).mono ?_, .inl ⟨rfl, ?_⟩⟩
    · rintro e w1 ⟨h | h, hb⟩
      · exact ⟨h.2, hb⟩
      · exact absurd hg h.1
    · rintro e w1 ⟨h | h, hb⟩
      · exact ⟨h.2, hb⟩
      · exact absurd hg h.1
    · have h1 : (strOf (hexd (pv s.data.toList)) 64).data.toList = s.data.toList := by rw [strOf_list, hex_pv _ hg]
      exact ByteArray.ext (Array.toList_inj.1 h1)
  · refine ⟨fun _ => 0, 4, fun w => (parse_any s w).mono ?_, fun w => (refParse_any s w hs).mono ?_, .inr rfl⟩
    · rintro e w1 ⟨h | h, hb⟩
      · exact absurd h.1 hg
      · exact ⟨h.2, hb⟩
    · rintro e w1 ⟨h | h, hb⟩
      · exact absurd h.1 hg
      · exact ⟨h.2, hb⟩
theorem pv_hexd (h : Nat → UInt8) (i : Nat) (hi : i < 32) : pv ((List.range 64).map (hexd h)) i = h i := by
  have e : ∀ j, j < 64 → byteAt ((List.range 64).map (hexd h)) j = dig (nib h j) := fun j hj => by
    unfold byteAt; rw [List.getD_eq_getElem?_getD, List.getElem?_map, List.getElem?_range hj, ← nib_dig]; rfl
  have v : ∀ j, j < 64 → (dv (byteAt ((List.range 64).map (hexd h)) j)).1.toNat = nib h j := fun j hj => by
    rw [e j hj]; exact ((dig_eq (nib h j) (nib_lt h j) _).1 rfl).2
  have hb := (h i).toNat_lt
  unfold pv
  rw [v _ (by omega), v _ (by omega), ← UInt8.toNat_inj, UInt8.toNat_ofNat']
  unfold nib
  rw [if_pos (by omega), if_neg (by omega), show 2 * i / 2 = i by omega, show (2 * i + 1) / 2 = i by omega]
  omega
set_option maxHeartbeats 1600000 in
theorem hashHexes_walk (n : Num) (h : Nat → UInt8) (t : ByteArray) (w : World) (hG : Glob n w) (ht : t.size ≤ 140737488351232) :
    Calls Tryd.prog 6 #[.agg (tabv (bv h) 32), .string t] w fun e w' => e = .returned (.bool true) ∧ Below w.heap.size w w' := by
  obtain ⟨A, E, hp, hr, hAE⟩ := parse_both t (by omega)
  obtain ⟨X, hX⟩ : ∃ X, strOf (hexd h) 64 = X := ⟨_, rfl⟩
  have hhex : ∀ w : World, Calls Tryd.prog 13 #[.agg (tabv (bv h) 32)] w fun e w' => e = .returned (.string X) ∧ Below w.heap.size w w' := fun w => by rw [← hX]; exact hex_any h w
  have hrhex : ∀ w : World, Calls Tryd.prog 17 #[.agg (tabv (bv h) 32)] w fun e w' => e = .returned (.string X) ∧ Below w.heap.size w w' := fun w => by rw [← hX]; exact refHex_any h w
  have hback : ∀ w : World, Calls Tryd.prog 15 #[.string X] w fun e w' => e = .returned (.tuple #[.agg (tabv (bv h) 32), .int .i64 0]) ∧ Below w.heap.size w w' := fun w => by
    have hl : X.data.toList = (List.range 64).map (hexd h) := by rw [← hX, strOf_list]
    refine (parse_any X w).mono ?_
    rintro e w1 ⟨h1 | h1, hb⟩
    · refine ⟨?_, hb⟩
      rw [h1.2, hl, tabv_congr (bv (pv ((List.range 64).map (hexd h)))) (bv h) 32 (fun i hi => by unfold bv; rw [pv_hexd h i hi])]
    · exact absurd (hl ▸ hex_good h) h1.1
  have hxa : ∀ w : World, Calls Tryd.prog 13 #[.agg (tabv (bv A) 32)] w fun e w' => e = .returned (.string (strOf (hexd A) 64)) ∧ Below w.heap.size w w' := fun w => hex_any A w
  obtain ⟨Y, hY⟩ : ∃ Y, strOf (hexd A) 64 = Y := ⟨_, rfl⟩
  rw [hY] at hxa hAE
  have hqA : ∀ w : World, (Op.equalIn 10000 26 (.agg (tabv (bv A) 32)) (.agg (tabv (bv A) 32))).run Tryd.prog w = .ok true w := fun w => by rw [eq26, all_same]
  have hqh : ∀ w : World, (Op.equalIn 10000 26 (.agg (tabv (bv h) 32)) (.agg (tabv (bv h) 32))).run Tryd.prog w = .ok true w := fun w => by rw [eq26, all_same]
  have hgt := guard26
  have A1 := hide hp
  have A2 := hide hr
  have A3 := hide hhex
  have A4 := hide hrhex
  have A5 := hide hback
  have A6 := hide hxa
  have HAE := hide hAE
  clear hp hr hhex hrhex hback hxa hAE hX hY
  have h0 : Has (w.alloc (.cells (tabv (bv h) 32) 26)) w.heap.size 26 (bv h) 32 := Has.new w 26 (bv h) 32 _ rfl
  have hb : Below w.heap.size w (w.alloc (.cells (tabv (bv h) 32) 26)) := (Below.refl w.heap.size w).alloc (Nat.le_refl _) _
  have H0 := hide h0
  have HB := hide hb
  clear h0 hb
  go_enter Tryd.func6, Tryd.ntmps6
  go_wp2_with (refine wpList_load_part rfl 26 _ rfl w.heap.size 0 rfl 26 _ 32 32 _ H0.out (by omega) Tryd.underlying26 rfl info26 (bv h) (fun i _ => by rw [Nat.zero_add]) ?_)
  refine (A3.out _).mono ?_
  rintro e w1 ⟨rfl, hb1⟩
  have k0 := H0.out.below hb1 H0.out.lt
  have kb := HB.out.trans (hb1.mono HB.out.size)
  clear H0 HB hb1
  go_wp2_with fail
  refine (A1.out _).mono ?_
  rintro e w2 ⟨rfl, hb2⟩
  have k0 := k0.below hb2 k0.lt
  have kb := kb.trans (hb2.mono kb.size)
  have hn := Has.new w2 26 (fun _ => .int .u8 0) 32 _ rfl
  have HN := hide hn
  clear hn
  go_wp2_with (refine wpList_store_part rfl 26 _ _ rfl rfl w2.heap.size 0 (bv A) 32 rfl rfl 26 _ 32 HN.out (by omega) info26 (fun _ _ => rfl) (bv A) (fun i hi => by unfold splice; rw [if_pos (by omega), Nat.sub_zero]) ?_)
  have jb0 : Below w2.heap.size w2 ((w2.alloc (.cells (tabv (fun _ => .int .u8 0) 32) 26)).setRow w2.heap.size (tabv (bv A) 32)) := below_setRow ((Below.refl _ _).alloc (Nat.le_refl _) _) (Nat.le_refl _) _
  have hnew0 : Has ((w2.alloc (.cells (tabv (fun _ => .int .u8 0) 32) 26)).setRow w2.heap.size (tabv (bv A) 32)) w2.heap.size 26 (bv A) 32 := HN.out.row _ _ rfl
  refine (A2.out _).mono ?_
  rintro e w4 ⟨rfl, hb5⟩
  have jb := jb0.trans (hb5.mono jb0.size)
  have k6 := hnew0.below hb5 hnew0.lt
  have k0 := k0.below jb k0.lt
  have kb := kb.trans (jb.mono kb.size)
  clear jb0 hnew0 hb5 jb HN
  have hn := Has.new w4 26 (fun _ => .int .u8 0) 32 _ rfl
  have HN := hide hn
  clear hn
  go_wp2_with (refine wpList_store_part rfl 26 _ _ rfl rfl w4.heap.size 0 (bv A) 32 rfl rfl 26 _ 32 HN.out (by omega) info26 (fun _ _ => rfl) (bv A) (fun i hi => by unfold splice; rw [if_pos (by omega), Nat.sub_zero]) ?_)
  have jb0 : Below w4.heap.size w4 ((w4.alloc (.cells (tabv (fun _ => .int .u8 0) 32) 26)).setRow w4.heap.size (tabv (bv A) 32)) := below_setRow ((Below.refl _ _).alloc (Nat.le_refl _) _) (Nat.le_refl _) _
  have hnew0 : Has ((w4.alloc (.cells (tabv (fun _ => .int .u8 0) 32) 26)).setRow w4.heap.size (tabv (bv A) 32)) w4.heap.size 26 (bv A) 32 := HN.out.row _ _ rfl
  refine (A5.out _).mono ?_
  rintro e w6 ⟨rfl, hb5⟩
  have jb := jb0.trans (hb5.mono jb0.size)
  have k8 := hnew0.below hb5 hnew0.lt
  have k0 := k0.below jb k0.lt
  have k6 := k6.below jb k6.lt
  have kb := kb.trans (jb.mono kb.size)
  clear jb0 hnew0 hb5 jb HN
  have hn := Has.new w6 26 (fun _ => .int .u8 0) 32 _ rfl
  have HN := hide hn
  clear hn
  have jb0 : Below w6.heap.size w6 ((w6.alloc (.cells (tabv (fun _ => .int .u8 0) 32) 26)).setRow w6.heap.size (tabv (bv h) 32)) := below_setRow ((Below.refl _ _).alloc (Nat.le_refl _) _) (Nat.le_refl _) _
  have k0z := k0.below jb0 k0.lt
  have K0z := hide k0z
  clear k0z
  go_wp2_with (first | refine wpList_store_part rfl 26 _ _ rfl rfl w6.heap.size 0 (bv h) 32 rfl rfl 26 _ 32 HN.out (by omega) info26 (fun _ _ => rfl) (bv h) (fun i hi => by unfold splice; rw [if_pos (by omega), Nat.sub_zero]) ?_ | refine wpList_load_part rfl 26 _ rfl w.heap.size 0 rfl 26 _ 32 32 _ K0z.out (by omega) Tryd.underlying26 rfl info26 (bv h) (fun i _ => by rw [Nat.zero_add]) ?_)
  have hnew0 : Has ((w6.alloc (.cells (tabv (fun _ => .int .u8 0) 32) 26)).setRow w6.heap.size (tabv (bv h) 32)) w6.heap.size 26 (bv h) 32 := HN.out.row _ _ rfl
  refine (A4.out _).mono ?_
  rintro e w8 ⟨rfl, hb5⟩
  have jb := jb0.trans (hb5.mono jb0.size)
  have k10 := hnew0.below hb5 hnew0.lt
  have k0 := k0.below jb k0.lt
  have k6 := k6.below jb k6.lt
  have k8 := k8.below jb k8.lt
  have kb := kb.trans (jb.mono kb.size)
  clear jb0 hnew0 hb5 jb HN K0z
  generalize w2.heap.size = p6 at k6 ⊢
  generalize w4.heap.size = p8 at k8 ⊢
  generalize w6.heap.size = p10 at k10 ⊢
  have M0 := hide k0
  have M6 := hide k6
  have M8 := hide k8
  have M10 := hide k10
  clear k0 k6 k8 k10
  go_wp2_with (first | refine wpList_load_want (by rfl) 26 _ rfl p6 0 rfl 26 _ 32 32 _ M6.out (by omega) Tryd.underlying26 rfl info26 (bv A) (fun i _ => by rw [Nat.zero_add]) ?_ | refine wpList_load_want (by rfl) 26 _ rfl p8 0 rfl 26 _ 32 32 _ M8.out (by omega) Tryd.underlying26 rfl info26 (bv A) (fun i _ => by rw [Nat.zero_add]) ?_ | refine wpList_load_want (by rfl) 26 _ rfl p10 0 rfl 26 _ 32 32 _ M10.out (by omega) Tryd.underlying26 rfl info26 (bv h) (fun i _ => by rw [Nat.zero_add]) ?_ | refine wpList_load_want (by rfl) 26 _ rfl w.heap.size 0 rfl 26 _ 32 32 _ M0.out (by omega) Tryd.underlying26 rfl info26 (bv h) (fun i _ => by rw [Nat.zero_add]) ?_)
  refine (first_any n _ (hG.below kb hG.2.2)).mono ?_
  rintro e w9 ⟨rfl, hb9⟩
  have k6 := M6.out.below hb9 M6.out.lt
  have kb := kb.trans (hb9.mono kb.size)
  have N6 := hide k6
  clear k6 M6 M0 M8 M10 hb9
  rcases HAE.out with ⟨rfl, hYt⟩ | rfl
  · rw [hYt] at A6
    clear hYt
    go_wp2_with (refine wpList_load_want (by rfl) 26 _ rfl p6 0 rfl 26 _ 32 32 _ N6.out (by omega) Tryd.underlying26 rfl info26 (bv A) (fun i _ => by rw [Nat.zero_add]) ?_)
    refine (A6.out _).mono ?_
    rintro e w10 ⟨rfl, hb10⟩
    go_wp2
    go_ret
    exact ⟨by simp, kb.trans (hb10.mono kb.size)⟩
  · go_wp2
    go_ret
    exact ⟨rfl, kb⟩
end Go.Proofs.YtkhogpnmkonajaaDoor
