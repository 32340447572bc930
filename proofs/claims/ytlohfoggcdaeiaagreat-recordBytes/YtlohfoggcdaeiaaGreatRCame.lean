import Derived.Test.YtlohfoggcdaeiaaGreatROpenS
import Derived.Test.YtlohfoggcdaeiaaGreatROpenA
import Derived.Deep.DeepCutAuto
import Derived.Deep.Cut
/-
  What is opened of the arguments stays while memory only grows (by hand).
-/
namespace Go.Proofs.YtlohfoggcdaeiaaGreat
open Go.RowKit S
set_option linter.unusedVariables false
set_option linter.unusedSimpArgs false
theorem Slots.belowW {w w' : World} {ad : Option Addr} {l : List Slot} (h : Slots w ad l) (hb : Below w.heap.size w w') : Slots w' ad l := by
  rcases h with rfl | ⟨b, o, h1, h2, h3⟩
  · exact .inl rfl
  · exact .inr ⟨b, o, h1, Nat.lt_of_lt_of_le h2 hb.size, fun i s hs j hj => (hb.cell (p := ⟨b, o + i * 34 + j, none⟩) h2).trans (h3 i s hs j hj)⟩
theorem StAt.below {w w' : World} {s : St} {lo lp : List Upd} {ls : List Slot} (h : StAt w s lo lp ls) (hb : Below w.heap.size w w') : StAt w' s lo lp ls :=
  ⟨h.no, h.np, h.ns, h.o.below hb, h.p.below hb, h.f.belowW hb, h.co, h.cp, h.zo, h.zp, h.zs⟩
theorem Recs.below {w w' : World} {ad : Option Addr} {rs : List (Rc × List Upd)} (h : Recs w ad rs) (hb : Below w.heap.size w w') : Recs w' ad rs := by
  rcases h with rfl | ⟨b, o, h1, h2, h3⟩
  · exact .inl rfl
  · refine .inr ⟨b, o, h1, Nat.lt_of_lt_of_le h2 hb.size, fun i r hr => ?_⟩
    obtain ⟨k1, k2, k3, k4⟩ := h3 i r hr
    exact ⟨fun j hj => (hb.cell (p := ⟨b, o + i * 138 + j, none⟩) h2).trans (k1 j hj), k2, k3.below hb, k4⟩
theorem Recs.get {w : World} {ad : Option Addr} {rs : List (Rc × List Upd)} (h : Recs w ad rs) {i : Nat} {r : Rc × List Upd} (hr : rs[i]? = some r) : ∃ b off, ad = some ⟨b, off, none⟩ ∧ b < w.heap.size ∧ At w b (off + i * 138) r.1.v 138 ∧ r.2.length = r.1.upds.n ∧ Upds w r.1.upds.ad r.2 ∧ r.1.upds.n ≤ r.1.upds.c ∧ r.1.upds.c * 72 ≤ 140737488351232 := by
  rcases h with rfl | ⟨b, o, h1, h2, h3⟩
  · simp at hr
  · obtain ⟨k1, k2, k3⟩ := h3 i r hr
    exact ⟨b, o, h1, h2, k1, k2, k3⟩
end Go.Proofs.YtlohfoggcdaeiaaGreat
/-
  updates: so many updates one behind the other (printed by gen_r18.py).
-/
namespace Go.Proofs.YtlohfoggcdaeiaaGreat
open Go.RowKit S
set_option linter.unusedVariables false
set_option linter.unusedSimpArgs false
open Cu (nb be hl ofL CW Mw CR Mr RS takeS takeA hOf nil8 doneS)
def rdUs : Nat → List UInt8 → Option (List Upd × Nat)
  | 0, _ => some ([], 0)
  | n + 1, L => if (rdL (L.take 69)).2.2 = 0 then (rdUs n (L.drop (rdL (L.take 69)).2.1.toNat)).map (fun p => ((rdL (L.take 69)).1 :: p.1, (rdL (L.take 69)).2.1.toNat + p.2)) else none
def UsP (B : Nat) (R : Option (List Upd × Nat)) (e : Ending) (w : World) : Prop := match R with
  | some (us, a) => ∃ x : Sl, e = .returned (.tuple #[.slice x.ad x.n x.c, .int .i64 (a : Int), .bool true]) ∧ OwnU B w x.v us
  | none => e = .returned (.tuple #[.slice none 0 0, .int .i64 0, .bool false])
theorem rdUs_yes {n : Nat} {L : List UInt8} {u : Upd} {m : Nat} (h : rdL (L.take 69) = (u, (m : Int), 0)) : rdUs (n + 1) L = (rdUs n (L.drop m)).map (fun p => (u :: p.1, m + p.2)) := by
  have e : rdUs (n + 1) L = if (rdL (L.take 69)).2.2 = 0 then (rdUs n (L.drop (rdL (L.take 69)).2.1.toNat)).map (fun p => ((rdL (L.take 69)).1 :: p.1, (rdL (L.take 69)).2.1.toNat + p.2)) else none := rfl
  rw [e, h, if_pos rfl]
  show Option.map (fun p => (u :: p.1, ((m : Int)).toNat + p.2)) (rdUs n (L.drop ((m : Int)).toNat)) = _
  rw [Int.toNat_natCast]
theorem rdUs_no {n : Nat} {L : List UInt8} (h : (rdL (L.take 69)).2.2 ≠ 0) : rdUs (n + 1) L = none := by
  have e : rdUs (n + 1) L = if (rdL (L.take 69)).2.2 = 0 then (rdUs n (L.drop (rdL (L.take 69)).2.1.toNat)).map (fun p => ((rdL (L.take 69)).1 :: p.1, (rdL (L.take 69)).2.1.toNat + p.2)) else none := rfl
  rw [e, if_neg h]
theorem ext_list (b : ByteArray) (i j : Nat) : (b.extract i j).data.toList = (b.data.toList.drop i).take (j - i) := by
  rw [ByteArray.data_extract, Array.toList_extract, List.extract_eq_take_drop]
/-- What is read up to now, and what is left. -/
def UsI (n : Nat) (L : List UInt8) (j k : Nat) (us : List Upd) : Prop := us.length = j ∧ rdUs n L = (rdUs (n - j) (L.drop k)).map (fun p => (us ++ p.1, k + p.2))
theorem UsI.next {n : Nat} {L : List UInt8} {j k m : Nat} {us : List Upd} {u : Upd} (h : UsI n L j k us) (hj : j < n) (hu : rdL ((L.drop k).take 69) = (u, (m : Int), 0)) : UsI n L (j + 1) (k + m) (us ++ [u]) := by
  refine ⟨by rw [List.length_append, h.1]; rfl, ?_⟩
  rw [h.2, show n - j = (n - (j + 1)) + 1 by omega, rdUs_yes hu, List.drop_drop, Option.map_map]
  congr 1
  funext p
  simp only [Function.comp, List.append_assoc, List.singleton_append, Nat.add_assoc]
theorem UsI.stop {n : Nat} {L : List UInt8} {j k : Nat} {us : List Upd} (h : UsI n L j k us) (hj : j < n) (hu : (rdL ((L.drop k).take 69)).2.2 ≠ 0) : rdUs n L = none := by
  rw [h.2, show n - j = (n - (j + 1)) + 1 by omega, rdUs_no hu]; rfl
theorem UsI.fin {n : Nat} {L : List UInt8} {k : Nat} {us : List Upd} (h : UsI n L n k us) : rdUs n L = some (us, k) := by
  rw [h.2, Nat.sub_self]
  show some (us ++ [], k + 0) = _
  rw [List.append_nil, Nat.add_zero]
theorem results_tmp3 {P : Program} {fn : Func} {a b c : Nat} (h : fn.results = #[.tmp a, .tmp b, .tmp c]) (tmps : Array Value) (w : World) (x : Unit) : (results fn tmps).run P w = .ok (.tuple #[tmps.getD a undef, tmps.getD b undef, tmps.getD c undef]) w := by
  simp [results, h]
set_option maxRecDepth 100000 in
set_option maxHeartbeats 40000000 in
theorem updates_any (b : ByteArray) (n : Nat) (hn : n ≤ 65535) (hb : b.size ≤ 140737490000000) (w : World) : Calls Tryz.prog 81 #[.string b, .int .i64 (n : Int)] w fun e w' => UsP w.heap.size (rdUs n b.data.toList) e w' ∧ Below w.heap.size w w' := by
  have hni : (n : Int) ≤ 65535 := by omega
  have hbi : (b.size : Int) ≤ 140737490000000 := by omega
  obtain ⟨L, hL⟩ : ∃ L, b.data.toList = L := ⟨_, rfl⟩
  have hLs : L.length = b.size := by rw [← hL, str_len]
  rw [hL]
  go_enter Tryz.func81, Tryz.ntmps81
  go_wp2
  go_loopw [13, 7, 8] (fun i v a wr => ∃ (j : Nat) (y : Sl) (k : Nat) (us : List Upd), j ≤ n ∧ i = .int .i64 (j : Int) ∧ v = .slice y.ad y.n y.c ∧ a = .int .i64 (k : Int) ∧ k ≤ L.length ∧ UsI n L j k us ∧ OwnU w.heap.size wr y.v us ∧ Below w.heap.size w wr) (fun i _ _ _ => n - (intOf i).toNat)
  case atStart => exact ⟨0, nilS, 0, [], Nat.zero_le _, rfl, rfl, rfl, Nat.zero_le _, ⟨rfl, by simp⟩, OwnU.nil _ _, Below.refl _ _⟩
  case round =>
    obtain ⟨j, y, k, us, hj, rfl, rfl, rfl, hk, hI, hO, hB⟩ := hrel
    have HI := hide hI
    have HO := hide hO
    have hki : (k : Int) ≤ (b.size : Int) := by omega
    by_cases hlt : j < n
    · have hd : decide ((j : Int) < (n : Int)) = true := decide_eq_true (by omega)
      have hd2 : decide (j < n) = true := decide_eq_true hlt
      clear hI hO
      by_cases h69 : k + 69 ≤ b.size
      · have h7 : (k : Int) + 69 ≤ (b.size : Int) := by omega
        obtain ⟨c, hc⟩ : ∃ c, b.extract k (k + 69) = c := ⟨_, rfl⟩
        have hcl : c.data.toList = (L.drop k).take 69 := by rw [← hc, ext_list, hL]; rw [show k + 69 - k = 69 by omega]
        have hcs : c.size ≤ 140737490000000 := by rw [← str_len, hcl, List.length_take]; omega
        have RD := read_any c wr (by omega)
        rw [readC_of, hcl] at RD
        obtain ⟨⟨u, mi, E⟩, hr⟩ : ∃ y, rdL ((L.drop k).take 69) = y := ⟨_, rfl⟩
        rw [hr] at RD
        have RD := hide RD
        have HR := hide hr
        have HC := hide hc
        clear hcl hcs hr hc
        go_wp2_with fail
        rw [HC.out]
        refine RD.out.mono ?_
        rintro e w5 ⟨rfl, hb5⟩
        obtain ⟨w6, w7, hW6, q6, hW7, q7, b7, b6⟩ := newU2 w5 u
        have Q6 := hide q6
        have O5 := hide (HO.out.below hb5 (Nat.le_refl _))
        have O7 := hide (O5.out.below b7 (Nat.le_refl _))
        have B7 : Below w.heap.size w w7 := (hB.trans (hb5.mono hB.size)).trans (b7.mono (Nat.le_trans hB.size hb5.size))
        clear q6 b7 b6 hb5 HO O5 RD hB
        go_upto_region 6 with (first | rw [hW7] | refine wpList_storeU rfl _ _ rfl rfl (w5.heap.size) (u) rfl rfl _ Q6.out ?_ | fail)
        try rw [hW7]
        generalize hg5 : w5.heap.size = g5 at q7 ⊢
        clear hW6 hW7 Q6 hg5
        by_cases hE : E = 0
        · subst hE
          obtain ⟨_, m0, m1, _⟩ := rd_ok _ _ _ HR.out
          obtain ⟨m, rfl⟩ : ∃ m : Nat, mi = (m : Int) := ⟨mi.toNat, by omega⟩
          have ml : m ≤ 69 ∧ m ≤ (L.drop k).length := by rw [List.length_take] at m1; omega
          have mk : k + m ≤ L.length := by have := ml.2; rw [List.length_drop] at this; omega
          have hUn := HI.out.next hlt HR.out
          obtain ⟨v9, w8, w9, RS, RA, O9, gr9, bl9, own9, hw8⟩ := appU_at w7 w.heap.size y.v us u O7.out (by have := HI.out.1; omega) B7.size
          obtain ⟨x9, rfl⟩ := slOf O9
          have B9 : Below w.heap.size w w9 := B7.trans bl9
          have RSH := hide RS
          have RAH : Hid ((Builtin.append_ #[27, 27] 27 #[.slice y.ad y.n y.c, .slice (some ⟨w7.heap.size, 0, none⟩) 1 1]).run Tryz.prog w8 = .ok (.slice x9.ad x9.n x9.c) w9) := RA
          have Q7 := hide q7
          have O9 := hide O9
          have HU := hide hUn
          have k1 : (k : Int) + (m : Int) ≤ 140737490000000 := by omega
          have k2 : (0 : Int) ≤ (m : Int) := by omega
          clear RS RA gr9 bl9 own9 hw8 hUn m0 m1 ml HI O7 q7 HR
          go_wp2_with (first | refine wpW_load_at 36 _ rfl (g5) (0) (by rfl) (by rfl) _ 36 _ (Q7.out.at_ 0 (by omega) (fun i hi => by rw [Nat.zero_add])) Tryz.underlying36 rfl infoU ?_ | refine wpList_slice1 rfl 27 _ rfl (.agg (tabv u.v 36)) rfl RSH.out ?_ | refine wpList_app rfl _ _ _ rfl RAH.out ?_ | fail)
          go_roundw
          case rel => exact ⟨j + 1, x9, k + m, us ++ [u], by omega, by go_num, rfl, by first | rfl | (congr 1), by omega, HU.out, O9.out, B9⟩
          case measure => simp [intOf]; omega
        · have hq : (E != 0) = true := bne_iff_ne.2 hE
          have HX : Hid (rdUs n L = none) := HI.out.stop hlt (by rw [HR.out]; exact hE)
          clear hE
          go_wp2
          (try simp only [Exit.inBlock, Exit.then])
          refine bodyPost_ret (results_tmp3 rfl _ _ ()) rfl ?_
          exact ⟨by rw [HX.out]; rfl, B7⟩
      · have h7 : (b.size : Int) < (k : Int) + 69 := by omega
        obtain ⟨c, hc⟩ : ∃ c, b.extract k b.size = c := ⟨_, rfl⟩
        have hcl : c.data.toList = (L.drop k).take 69 := by rw [← hc, ext_list, hL]; rw [List.take_of_length_le (by rw [List.length_drop, ← hL, str_len]; omega), List.take_of_length_le (by rw [List.length_drop, ← hL, str_len]; omega)]
        have hcs : c.size ≤ 140737490000000 := by rw [← str_len, hcl, List.length_take]; omega
        have RD := read_any c wr (by omega)
        rw [readC_of, hcl] at RD
        obtain ⟨⟨u, mi, E⟩, hr⟩ : ∃ y, rdL ((L.drop k).take 69) = y := ⟨_, rfl⟩
        rw [hr] at RD
        have RD := hide RD
        have HR := hide hr
        have HC := hide hc
        clear hcl hcs hr hc
        go_wp2_with fail
        rw [HC.out]
        refine RD.out.mono ?_
        rintro e w5 ⟨rfl, hb5⟩
        obtain ⟨w6, w7, hW6, q6, hW7, q7, b7, b6⟩ := newU2 w5 u
        have Q6 := hide q6
        have O5 := hide (HO.out.below hb5 (Nat.le_refl _))
        have O7 := hide (O5.out.below b7 (Nat.le_refl _))
        have B7 : Below w.heap.size w w7 := (hB.trans (hb5.mono hB.size)).trans (b7.mono (Nat.le_trans hB.size hb5.size))
        clear q6 b7 b6 hb5 HO O5 RD hB
        go_upto_region 6 with (first | rw [hW7] | refine wpList_storeU rfl _ _ rfl rfl (w5.heap.size) (u) rfl rfl _ Q6.out ?_ | fail)
        try rw [hW7]
        generalize hg5 : w5.heap.size = g5 at q7 ⊢
        clear hW6 hW7 Q6 hg5
        by_cases hE : E = 0
        · subst hE
          obtain ⟨_, m0, m1, _⟩ := rd_ok _ _ _ HR.out
          obtain ⟨m, rfl⟩ : ∃ m : Nat, mi = (m : Int) := ⟨mi.toNat, by omega⟩
          have ml : m ≤ 69 ∧ m ≤ (L.drop k).length := by rw [List.length_take] at m1; omega
          have mk : k + m ≤ L.length := by have := ml.2; rw [List.length_drop] at this; omega
          have hUn := HI.out.next hlt HR.out
          obtain ⟨v9, w8, w9, RS, RA, O9, gr9, bl9, own9, hw8⟩ := appU_at w7 w.heap.size y.v us u O7.out (by have := HI.out.1; omega) B7.size
          obtain ⟨x9, rfl⟩ := slOf O9
          have B9 : Below w.heap.size w w9 := B7.trans bl9
          have RSH := hide RS
          have RAH : Hid ((Builtin.append_ #[27, 27] 27 #[.slice y.ad y.n y.c, .slice (some ⟨w7.heap.size, 0, none⟩) 1 1]).run Tryz.prog w8 = .ok (.slice x9.ad x9.n x9.c) w9) := RA
          have Q7 := hide q7
          have O9 := hide O9
          have HU := hide hUn
          have k1 : (k : Int) + (m : Int) ≤ 140737490000000 := by omega
          have k2 : (0 : Int) ≤ (m : Int) := by omega
          clear RS RA gr9 bl9 own9 hw8 hUn m0 m1 ml HI O7 q7 HR
          go_wp2_with (first | refine wpW_load_at 36 _ rfl (g5) (0) (by rfl) (by rfl) _ 36 _ (Q7.out.at_ 0 (by omega) (fun i hi => by rw [Nat.zero_add])) Tryz.underlying36 rfl infoU ?_ | refine wpList_slice1 rfl 27 _ rfl (.agg (tabv u.v 36)) rfl RSH.out ?_ | refine wpList_app rfl _ _ _ rfl RAH.out ?_ | fail)
          go_roundw
          case rel => exact ⟨j + 1, x9, k + m, us ++ [u], by omega, by go_num, rfl, by first | rfl | (congr 1), by omega, HU.out, O9.out, B9⟩
          case measure => simp [intOf]; omega
        · have hq : (E != 0) = true := bne_iff_ne.2 hE
          have HX : Hid (rdUs n L = none) := HI.out.stop hlt (by rw [HR.out]; exact hE)
          clear hE
          go_wp2
          (try simp only [Exit.inBlock, Exit.then])
          refine bodyPost_ret (results_tmp3 rfl _ _ ()) rfl ?_
          exact ⟨by rw [HX.out]; rfl, B7⟩
    · obtain rfl : n = j := by omega
      have hd : decide ((n : Int) < (n : Int)) = false := by simp
      have HX : Hid (rdUs n L = some (us, k)) := hI.fin
      go_wp2
      (try simp only [Exit.inBlock, Exit.then])
      refine bodyPost_ret (results_tmp3 rfl _ _ ()) rfl ?_
      exact ⟨by rw [HX.out]; exact ⟨y, rfl, hO⟩, hB⟩
end Go.Proofs.YtlohfoggcdaeiaaGreat
/-
  oursFields, cameFields (printed by gen_r19.py).
-/
namespace Go.Proofs.YtlohfoggcdaeiaaGreat
open Go.RowKit S
set_option linter.unusedVariables false
set_option linter.unusedSimpArgs false
open Cu (nb be hl ofL CW Mw CR Mr RS takeS takeA hOf nil8 doneS)
def fldOurs (b : ByteArray) : Option (Rc × List Upd) := match rdUs 1 (b.data.toList.drop 1) with
  | some (us, _) => some (⟨1, us.headD Upd.zero, nilS, 0, 0, 0, z32, z32, z32, 0⟩, [])
  | none => none
set_option maxRecDepth 100000 in
theorem builtRU1 (u : Upd) : Tryz.prog.built 38 [(0, .int .i64 1), (1, .agg (tabv u.v 36))] = some (tabv (Rc.v ⟨1, u, nilS, 0, 0, 0, z32, z32, z32, 0⟩) 138) := by kernel_rfl
theorem rdUs_len : ∀ (n : Nat) (L : List UInt8) (us : List Upd) (a : Nat), rdUs n L = some (us, a) → us.length = n ∧ a ≤ L.length
  | 0, L, us, a, h => by
    have h : some (([] : List Upd), 0) = some (us, a) := h
    cases h
    exact ⟨rfl, Nat.zero_le _⟩
  | n + 1, L, us, a, h => by
    obtain ⟨⟨u, mi, E⟩, hr⟩ : ∃ y, rdL (L.take 69) = y := ⟨_, rfl⟩
    by_cases hE : E = 0
    · subst hE
      obtain ⟨_, m0, m1, _⟩ := rd_ok _ _ _ hr
      obtain ⟨m, rfl⟩ : ∃ m : Nat, mi = (m : Int) := ⟨mi.toNat, by omega⟩
      rw [rdUs_yes hr] at h
      cases h2 : rdUs n (L.drop m) with
      | none => rw [h2] at h; cases h
      | some p =>
        obtain ⟨vs, c⟩ := p
        rw [h2] at h
        have ih := rdUs_len n (L.drop m) vs c h2
        have h : some (u :: vs, m + c) = some (us, a) := h
        cases h
        rw [List.length_take] at m1
        rw [List.length_drop] at ih
        exact ⟨by rw [List.length_cons, ih.1], by omega⟩
    · rw [rdUs_no (by rw [hr]; exact hE)] at h; cases h
set_option maxRecDepth 100000 in
set_option maxHeartbeats 40000000 in
theorem oursFields_any (b : ByteArray) (w : World) (h1 : 1 ≤ b.size) (hb : b.size ≤ 140737490000000) : Calls Tryz.prog 56 #[.string b] w fun e w' => FldP w.heap.size (fldOurs b) e w' ∧ Below w.heap.size w w' := by
  obtain ⟨w1, hW1⟩ : ∃ w1, w.alloc (.cells Tryz.zeroCells38 38) = w1 := ⟨_, rfl⟩
  have r1 : Has w1 w.heap.size 38 Rc.zero.v 138 := by rw [← hW1, zeroRc]; exact Has.new w 38 Rc.zero.v 138 _ rfl
  have b1 : Below w.heap.size w w1 := by rw [← hW1]; exact (Below.refl w.heap.size w).alloc (Nat.le_refl _) _
  obtain ⟨c, hc⟩ : ∃ c, b.extract 1 b.size = c := ⟨_, rfl⟩
  have hcl : c.data.toList = b.data.toList.drop 1 := by rw [← hc, ext_list, List.take_of_length_le (by rw [List.length_drop, str_len]; omega)]
  have hcs : c.size ≤ 140737490000000 := by rw [← str_len, hcl, List.length_drop, str_len]; omega
  have UP := updates_any c 1 (by omega) hcs w1
  rw [hcl] at UP
  have UP := hide UP
  have h1i : (1 : Int) ≤ (b.size : Int) := by omega
  have hbi : (b.size : Int) ≤ 140737490000000 := by omega
  obtain ⟨R, hR⟩ : ∃ R, rdUs 1 (b.data.toList.drop 1) = R := ⟨_, rfl⟩
  unfold fldOurs
  rw [hR] at UP ⊢
  have HR := hide hR
  clear hR hcl hcs
  go_enter Tryz.func56, Tryz.ntmps56
  go_wp2_with fail
  try rw [hc]
  refine UP.out.mono ?_
  rintro e w2 ⟨hP, hb2⟩
  have K2 := hide (r1.below hb2 r1.lt)
  have g2 : Below w.heap.size w w2 := b1.trans (hb2.mono b1.size)
  clear UP hW1 r1 b1 hb2 hc
  cases R with
  | none =>
    obtain rfl := hP
    go_wp2_with (first | refine wpW_build (by rfl) 38 #[] rfl [] (by first | rfl | (simp [Act.eval, Act.put]; done)) _ builtRZ ?_ | refine wpList_storeRc rfl _ _ rfl rfl (w.heap.size) (Rc.zero) rfl rfl _ K2.out ?_ | fail)
    (try simp only [Exit.inBlock, Exit.then])
    exact bodyPost_ret (resRcB _ w.heap.size _ _ (.bool false) 2 3 (K2.out.row _ Rc.zero.v rfl) rfl rfl _ rfl) rfl ⟨⟨Rc.zero, rfl⟩, below_setRow g2 (Nat.le_refl _) _⟩
  | some p =>
    obtain ⟨us, a⟩ := p
    obtain ⟨x, rfl, hO⟩ := hP
    obtain ⟨hl, _⟩ := rdUs_len _ _ _ _ HR.out
    obtain ⟨u, rfl⟩ : ∃ u, us = [u] := by
      match us, hl with
      | [u], _ => exact ⟨u, rfl⟩
    obtain ⟨xad, xn, xc⟩ := x
    obtain ⟨hxn, hU, _⟩ := OwnU.sl hO
    have hxn : 1 = xn := hxn
    subst hxn
    obtain ⟨bb, oo, hxa, _, hA⟩ := hU.get 0 u rfl
    have hxa : xad = some ⟨bb, oo, none⟩ := hxa
    subst hxa
    have HA := hide hA
    clear hO hU hl hA
    dsimp only
    go_wp2_with (first | refine wpW_load_at 36 _ rfl (bb) (oo + 0 * 36) (by rfl) (by rfl) _ 36 _ (HA.out) Tryz.underlying36 rfl infoU ?_ | refine wpW_build (by rfl) 38 #[(0, .const (.int .i64 1)), (1, .tmp 19)] rfl [(0, .int .i64 1), (1, .agg (tabv u.v 36))] (by first | rfl | (simp [Act.eval, Act.put]; done)) _ (builtRU1 u) ?_ | refine wpList_storeRc rfl _ _ rfl rfl (w.heap.size) (⟨1, u, nilS, 0, 0, 0, z32, z32, z32, 0⟩) rfl rfl _ K2.out ?_ | fail)
    (try simp only [Exit.inBlock, Exit.then])
    exact bodyPost_ret (resRcB _ w.heap.size _ _ (.bool true) 2 3 (K2.out.row _ (Rc.v ⟨1, u, nilS, 0, 0, 0, z32, z32, z32, 0⟩) rfl) rfl rfl _ rfl) rfl ⟨⟨nilS, rfl, OwnU.nil _ _⟩, below_setRow g2 (Nat.le_refl _) _⟩
end Go.Proofs.YtlohfoggcdaeiaaGreat
/-
  cameFields (printed by gen_r20.py).
-/
namespace Go.Proofs.YtlohfoggcdaeiaaGreat
open Go.RowKit S
set_option linter.unusedVariables false
set_option linter.unusedSimpArgs false
open Cu (nb be hl ofL CW Mw CR Mr RS takeS takeA hOf nil8 doneS)
def cmS (b : ByteArray) : RS := takeS 2 (takeS 8 (takeS 1 (b, 0)))
def cmN (b : ByteArray) : Nat := Cu.num 2 (takeS 8 (takeS 1 (b, 0)))
def fldCame (b : ByteArray) : Option (Rc × List Upd) := if (cmS b).2 = 0 then (match rdUs (cmN b) (b.data.toList.drop 11) with
    | some (us, a) => if (takeS 32 (Cu.rawS (a : Int) (cmS b))).2 = 0 then some (⟨(Cu.num 1 (b, 0) : Int), Upd.zero, nilS, rd8 (takeS 1 (b, 0)), 0, 0, hOf (takeA 32 (Cu.rawS (a : Int) (cmS b))), z32, z32, 0⟩, us) else none
    | none => none) else none
theorem takeS_ok2 (n : Nat) (st : RS) (h : (takeS (n : Int) st).2 = 0) (h0 : st.2 = 0) : n ≤ st.1.size ∧ (takeS (n : Int) st).1.size = st.1.size - n := by
  unfold takeS at h ⊢
  rw [if_pos h0] at h ⊢
  by_cases hl : (st.1.size : Int) < (n : Int)
  · rw [if_pos hl] at h; cases h
  · rw [if_neg hl]
    refine ⟨by omega, ?_⟩
    show (st.1.extract (n : Int).toNat st.1.size).size = _
    rw [ByteArray.size_extract, Int.toNat_natCast]
    omega
theorem takeS_bad2 (n : Int) (st : RS) (h : (takeS n st).2 = 0) : st.2 = 0 := by
  unfold takeS at h
  by_cases h0 : st.2 = 0
  · exact h0
  · rw [if_neg h0] at h; exact h
theorem cmS_size (b : ByteArray) (h : (cmS b).2 = 0) : 11 ≤ b.size := by
  unfold cmS at h
  have h8 := takeS_bad2 _ _ h
  have h1 := takeS_bad2 _ _ h8
  obtain ⟨a1, e1⟩ := takeS_ok2 1 (b, 0) h1 rfl
  obtain ⟨a8, e8⟩ := takeS_ok2 8 _ h8 h1
  obtain ⟨a2, _⟩ := takeS_ok2 2 _ h h8
  rw [show (takeS 8 (takeS 1 (b, 0))).1.size = (takeS 1 (b, 0)).1.size - 8 from e8] at a2
  rw [show (takeS 1 (b, 0)).1.size = b.size - 1 from e1] at a2 a8
  omega
theorem takeS_le (n : Int) (st : RS) : (takeS n st).1.size ≤ st.1.size := by
  unfold takeS
  split
  · split
    · exact Nat.zero_le _
    · rw [ByteArray.size_extract]; omega
  · exact Nat.le_refl _
theorem setU_id (r : Rc) : setU r r.upds = r := rfl
set_option maxRecDepth 100000 in
set_option maxHeartbeats 40000000 in
theorem cameFields_any (b : ByteArray) (w : World) (hb : b.size ≤ 140737490000000) : Calls Tryz.prog 59 #[.string b] w fun e w' => FldP w.heap.size (fldCame b) e w' ∧ Below w.heap.size w w' := by
  obtain ⟨w1, hW1⟩ : ∃ w1, w.alloc (.cells Tryz.zeroCells38 38) = w1 := ⟨_, rfl⟩
  have r1 : Has w1 w.heap.size 38 Rc.zero.v 138 := by rw [← hW1, zeroRc]; exact Has.new w 38 Rc.zero.v 138 _ rfl
  have b1 : Below w.heap.size w w1 := by rw [← hW1]; exact (Below.refl w.heap.size w).alloc (Nat.le_refl _) _
  obtain ⟨kn, hkn⟩ : ∃ kn, Cu.num 1 (b, 0) = kn := ⟨_, rfl⟩
  have hkl : kn < 256 := by rw [← hkn]; exact num1_le _
  obtain ⟨st, hst⟩ : ∃ st, takeS 1 (b, 0) = st := ⟨_, rfl⟩
  obtain ⟨nn, hnn⟩ : ∃ nn, cmN b = nn := ⟨_, rfl⟩
  have hnl : nn < 65536 := by rw [← hnn]; exact num2_le _
  obtain ⟨s2, hs2⟩ : ∃ s2, cmS b = s2 := ⟨_, rfl⟩
  have hsz : s2.2 = 0 → 11 ≤ b.size := fun h => cmS_size b (by rw [hs2]; exact h)
  have hs2b : s2.1.size ≤ b.size := by
    rw [← hs2]; unfold cmS
    exact Nat.le_trans (takeS_le _ _) (Nat.le_trans (takeS_le _ _) (takeS_le 1 (b, 0)))
  obtain ⟨F, hF⟩ : ∃ F, fldCame b = F := ⟨_, rfl⟩
  have HF := hide (show (if s2.2 = 0 then (match rdUs nn (b.data.toList.drop 11) with | some (us, a) => if (takeS 32 (Cu.rawS (a : Int) s2)).2 = 0 then some ((⟨(kn : Int), Upd.zero, nilS, rd8 st, 0, 0, hOf (takeA 32 (Cu.rawS (a : Int) s2)), z32, z32, 0⟩ : Rc), us) else none | none => none) else none) = F by rw [← hF, ← hs2, ← hnn, ← hkn, ← hst]; rfl)
  rw [hF]
  have hn2 : Cu.num 2 (takeS 8 st) = nn := by rw [← hst]; exact hnn
  have hs3 : takeS 2 (takeS 8 st) = s2 := by rw [← hst]; exact hs2
  have HN2 := hide hn2
  have HS3 := hide hs3
  clear hF hn2 hs3 hnn hs2
  have hbi : (b.size : Int) ≤ 140737490000000 := by omega
  go_enter Tryz.func59, Tryz.ntmps59
  go_wp2_with fail
  refine (Cu.rOpen b _).mono ?_
  rintro e w2 ⟨rfl, hC2, hb2, hz2⟩
  obtain ⟨p, hp⟩ : ∃ p, w1.heap.size = p := ⟨_, rfl⟩
  rw [hp] at hC2 ⊢
  have hgp : w.heap.size < p := by rw [← hp]; exact r1.lt
  have q1 := r1.below hb2 r1.lt
  have g2 : Below w.heap.size w w2 := b1.trans (hb2.mono b1.size)
  clear hW1 r1 b1 hb2 hz2 hp
  go_wp2_with fail
  refine (Cu.rU8 p (b, 0) _ hC2).mono ?_
  rintro e w3 ⟨rfl, hC3, hM3⟩
  have q3 := q1.mr hM3 (by omega)
  have g3 : Below w.heap.size w w3 := g2.trans (hM3.below (by omega) g2.size)
  rw [show be (takeA 1 (b, 0)).data.toList = kn from hkn]
  rw [hst] at hC3
  have KC := hide (conv8i kn hkl)
  obtain ⟨w4, w5, hW4, q4, hW5, q5, b5⟩ := newRc w3 ⟨(kn : Int), Upd.zero, nilS, 0, 0, 0, z32, z32, z32, 0⟩
  have Q4 := hide q4
  have F5 : Hid (FB w p w3.heap.size st ⟨(kn : Int), Upd.zero, nilS, 0, 0, 0, z32, z32, z32, 0⟩ w5) := ⟨hC3.same (b5.block p hC3.lt), q3.below b5 q3.lt, q5, g3.trans (b5.mono g3.size), hgp, hC3.lt⟩
  clear hkn hst hC2 hC3 hM3 q1 q3 g2 g3 q4 q5 b5 hkl
  go_upto_region 3 with (first | rw [hW5] | refine Cu.wpList_conv rfl _ _ _ rfl .u8 .i64 (kn : Int) (kn : Int) (by rfl) (KC.out _) ?_ | refine wpW_build (by rfl) 38 #[(0, .tmp 14)] rfl [(0, .int .i64 (kn : Int))] (by first | rfl | (simp [Act.eval, Act.put]; done)) _ (builtRK (kn : Int)) ?_ | refine wpList_storeRc rfl _ _ rfl rfl (w3.heap.size) (⟨(kn : Int), Upd.zero, nilS, 0, 0, 0, z32, z32, z32, 0⟩) rfl rfl _ Q4.out ?_ | fail)
  try rw [hW5]
  generalize hg5 : w3.heap.size = g5 at F5 ⊢
  clear hW4 hW5 hg5 Q4 KC
  go_wp2_with fail
  refine (Cu.rI64 p st _ F5.out.cr (rd8 st) rfl).mono ?_
  rintro e w6 ⟨rfl, hCq, hMq⟩
  have G6 := F5.out.call hCq hMq
  have c38 : w6.cell? ⟨g5, 38, none⟩ = some (.int .i64 0) := G6.var.cell 38 (by omega)
  have f38 := G6.var.frozen 38
  obtain ⟨w7, hW7⟩ : ∃ y, w6.setCell ⟨g5, 38, none⟩ (.int .i64 (rd8 st)) = y := ⟨_, rfl⟩
  have F7 : Hid (FB w p g5 (takeS 8 st) ⟨(kn : Int), Upd.zero, nilS, rd8 st, 0, 0, z32, z32, z32, 0⟩ w7) := by show FB _ _ _ _ _ _; rw [← hW7]; exact G6.cell 38 _ (G6.var.rIdx _)
  clear hCq hMq F5 G6
  go_upto_region 4 with (first | rw [hW7] | fail)
  try rw [hW7]
  clear c38 f38 hW7
  have KC := hide (conv16i nn hnl)
  go_wp2_with fail
  refine (Cu.rU16 p (takeS 8 st) _ F7.out.cr).mono ?_
  rintro e w8 ⟨rfl, hCq, hMq⟩
  rw [show be (takeA 2 (takeS 8 st)).data.toList = nn from HN2.out]
  rw [HS3.out] at hCq
  have F8 := hide (F7.out.call hCq hMq)
  clear hCq hMq F7
  go_upto_region 5 with (first | refine Cu.wpList_conv rfl _ _ _ rfl .u16 .i64 (nn : Int) (nn : Int) (by rfl) (KC.out _) ?_ | fail)
  clear KC
  go_wp2_with fail
  refine (Cu.rErr p s2 _ F8.out.cr).mono ?_
  rintro e wv ⟨rfl, rfl⟩
  by_cases hE : s2.2 = 0
  · have h11 := hsz hE
    have h11i : (11 : Int) ≤ (b.size : Int) := by omega
    obtain ⟨c, hc⟩ : ∃ c, b.extract 11 b.size = c := ⟨_, rfl⟩
    have hcl : c.data.toList = b.data.toList.drop 11 := by rw [← hc, ext_list, List.take_of_length_le (by rw [List.length_drop, str_len]; omega)]
    have hcs : c.size ≤ 140737490000000 := by rw [← str_len, hcl, List.length_drop, str_len]; omega
    have UP := updates_any c nn (by omega) hcs w8
    rw [hcl] at UP
    obtain ⟨R, hR⟩ : ∃ R, rdUs nn (b.data.toList.drop 11) = R := ⟨_, rfl⟩
    rw [hR] at UP
    have UP := hide UP
    have HR := hide hR
    have HC := hide hc
    have HE := hide hE
    have hEq : (s2.2 != 0) = false := by rw [hE]; rfl
    clear hR hcl hcs hc hE
    go_wp2_with fail
    rw [HC.out]
    refine UP.out.mono ?_
    rintro e w9 ⟨hP, hb9⟩
    have F9 : Hid (FB w p g5 s2 ⟨(kn : Int), Upd.zero, nilS, rd8 st, 0, 0, z32, z32, z32, 0⟩ w9) := ⟨F8.out.cr.same (hb9.block p F8.out.cr.lt), F8.out.res.below hb9 F8.out.res.lt, F8.out.var.below hb9 F8.out.var.lt, F8.out.bel.trans (hb9.mono F8.out.bel.size), F8.out.ord⟩
    have hg58 := F8.out.var.lt
    clear UP hb9 F8 hEq
    cases R with
    | none =>
      obtain rfl := hP
      have K8 := hide F9.out.res
      have g8 := F9.out.bel
      have HX : Hid (F = none) := by show _ = _; rw [← HF.out, if_pos HE.out, HR.out]
      go_wp2_with (first | refine wpW_build (by rfl) 38 #[] rfl [] (by first | rfl | (simp [Act.eval, Act.put]; done)) _ builtRZ ?_ | refine wpList_storeRc rfl _ _ rfl rfl (w.heap.size) (Rc.zero) rfl rfl _ K8.out ?_ | fail)
      (try simp only [Exit.inBlock, Exit.then])
      exact bodyPost_ret (resRcB _ w.heap.size _ _ (.bool false) 2 3 (K8.out.row _ Rc.zero.v rfl) rfl rfl _ rfl) rfl ⟨by rw [HX.out]; exact ⟨Rc.zero, rfl⟩, below_setRow g8 (Nat.le_refl _) _⟩
    | some q =>
      obtain ⟨us, a⟩ := q
      obtain ⟨x, rfl, hO⟩ := hP
      have hO' : OwnU (g5 + 1) w9 x.v us := hO.mono hg58
      have ha := (rdUs_len _ _ _ _ HR.out).2
      rw [List.length_drop, str_len] at ha
      have hai : (a : Int) ≤ 140737490000000 := by omega
      clear hO
      have c37 : w9.cell? ⟨g5, 37, none⟩ = some (.slice none 0 0) := F9.out.var.cell 37 (by omega)
      have f37 := F9.out.var.frozen 37
      obtain ⟨w10, hW10⟩ : ∃ y, w9.setCell ⟨g5, 37, none⟩ (.slice x.ad x.n x.c) = y := ⟨_, rfl⟩
      have F10 : Hid (FB w p g5 s2 ⟨(kn : Int), Upd.zero, x, rd8 st, 0, 0, z32, z32, z32, 0⟩ w10) := by show FB _ _ _ _ _ _; rw [← hW10]; exact F9.out.cell 37 _ (F9.out.var.rUpds x)
      have O10 : Hid (OwnU (g5 + 1) w10 x.v us) := by
        show OwnU _ _ _ _
        rw [← hW10]
        exact hO'.same fun k hk => Below.heap_setCell w9 ⟨g5, 37, none⟩ _ k (by have := (hO'.lt k hk).1; show k ≠ g5; omega)
      clear F9 hO' hg58
      go_upto_region 11 with (first | rw [hW10] | fail)
      try rw [hW10]
      clear c37 f37 hW10
      obtain ⟨sR, hsR⟩ : ∃ sR, Cu.rawS (a : Int) s2 = sR := ⟨_, rfl⟩
      have HSR := hide hsR
      clear hsR
      go_wp2_with fail
      refine (Cu.rRaw (a : Int) p s2 _ F10.out.cr (by omega)).mono ?_
      rintro e w11 ⟨rfl, hCq, hMq⟩
      rw [HSR.out] at hCq
      have F11 := hide (F10.out.call hCq hMq)
      have hpo := F10.out.ord
      have O11 : Hid (OwnU (g5 + 1) w11 x.v us) := O10.out.same fun k hk => hMq.block k (O10.out.lt k hk).2 (by have := (O10.out.lt k hk).1; omega)
      clear hCq hMq F10 O10
      go_upto_region 12 with fail
      go_wp2_with fail
      refine (Cu.rHash p sR _ F11.out.cr).mono ?_
      rintro e w12 ⟨rfl, hCq, hMq⟩
      have G12 := hide (F11.out.call hCq hMq)
      have O12 : OwnU (g5 + 1) w12 x.v us := O11.out.same fun k hk => hMq.block k (O11.out.lt k hk).2 (by have := (O11.out.lt k hk).1; omega)
      obtain ⟨w13, hW13⟩ : ∃ y, w12.setRow g5 (tabv (Rc.v ⟨(kn : Int), Upd.zero, x, rd8 st, 0, 0, hOf (takeA 32 sR), z32, z32, 0⟩) 138) = y := ⟨_, rfl⟩
      have X1 : FB w p g5 (takeS 32 sR) ⟨(kn : Int), Upd.zero, x, rd8 st, 0, 0, hOf (takeA 32 sR), z32, z32, 0⟩ w13 := by rw [← hW13]; exact G12.out.row
      have O13 : OwnU (g5 + 1) w13 x.v us := by rw [← hW13]; exact O12.same fun k hk => setRow_other _ _ _ _ (by have := (O12.lt k hk).1; omega)
      clear hCq hMq F11 O11 O12
      go_upto_region 13 with (first | rw [hW13] | refine wpList_store_part rfl 25 _ _ rfl rfl g5 41 (bv (hOf (takeA 32 sR))) 32 rfl rfl 38 _ 138 G12.out.var (by omega) info26 (fun i _ => rfl) _ (splice_sig _ _) ?_ | fail)
      try rw [hW13]
      clear hW13 G12
      obtain ⟨sf, hsf⟩ : ∃ sf, takeS 32 sR = sf := ⟨_, rfl⟩
      rw [hsf] at X1
      obtain ⟨rr, hrr⟩ : ∃ rr : Rc, ⟨(kn : Int), Upd.zero, x, rd8 st, 0, 0, hOf (takeA 32 sR), z32, z32, 0⟩ = rr := ⟨_, rfl⟩
      rw [hrr] at X1
      have HFF : Hid (FldP w.heap.size F (.returned (.tuple #[.agg (tabv rr.v 138), .bool (sf.2 == 0)])) w13 → FldP w.heap.size F (.returned (.tuple #[.agg (tabv rr.v 138), .bool (sf.2 == 0)])) w13) := fun h => h
      have FIN : Hid (∀ we : World, OwnU (g5 + 1) we x.v us → FldP w.heap.size F (.returned (.tuple #[.agg (tabv rr.v 138), .bool (sf.2 == 0)])) we) := fun we hOw => by
        have h := HF.out
        rw [if_pos HE.out, HR.out] at h
        dsimp only at h
        rw [HSR.out, hsf] at h
        by_cases h0 : sf.2 = 0
        · rw [if_pos h0] at h
          rw [← h]
          exact ⟨x, by rw [← hrr, h0]; rfl, hOw.mono (by omega)⟩
        · rw [if_neg h0] at h
          rw [← h]
          exact ⟨rr, by rw [show (sf.2 == 0) = false from beq_false_of_ne h0]⟩
      have ER := hide (fun w => Cu.rErr p sf w)
      clear hsf hrr HFF HF HSR HR HE
      refine wp_region_noPanic ?_
      refine wp_region_held_drew (S := fun wx => CR wx p sf ∧ Has wx g5 38 rr.v 138 ∧ (∃ f, Has wx w.heap.size 38 f 138) ∧ OwnU (g5 + 1) wx x.v us ∧ Below w.heap.size w wx) (by kernel_rfl) (⟨X1.cr, X1.var, ⟨_, X1.res⟩, O13, X1.bel.drew⟩) (fun hHeld => ?_)
      generalize hwd : World.drew _ = wd at hHeld ⊢
      clear hwd
      refine Cu.takeH 0 (some 45) (.agg (tabv rr.v 138)) rfl rfl (by kernel_rfl) (by kernel_rfl) (by kernel_rfl) (fun _ _ _ h => h) (by rfl) (fun w_ hw => run_load_at w_ 38 _ rfl g5 0 (by rfl) _ 138 _ (hw.2.1.at_ 0 (by omega) (fun i hi => by rw [Nat.zero_add])) Tryz.underlying38 rfl infoRc) hHeld ?_
      simp only [Act.put, List.setIfInBounds_toArray, List.set_cons_zero, List.set_cons_succ]
      refine Cu.takeH 1 (some 46) (.pointer (some ⟨p, 0, none⟩)) rfl rfl (by kernel_rfl) (by kernel_rfl) (by kernel_rfl) (fun _ _ _ h => h) (by rfl) (fun w_ hw => by first | rfl | (go_simp; done) | (go_simp; rfl) | (go_simp; omega)) hHeld ?_
      simp only [Act.put, List.setIfInBounds_toArray, List.set_cons_zero, List.set_cons_succ]
      refine wpAnyH_ready (rs := [2]) (by kernel_rfl) (by simp) (AllReadyH.cons rfl (fun K hK => ?_) AllReadyH.nil)
      rw [if_pos (by rfl)]
      go_simp
      refine (ER.out _ hHeld.1).mono ?_
      rintro e wv ⟨rfl, hx⟩
      obtain rfl := hx.symm
      try go_wp2_with fail
      refine hK.out _ _ hHeld (fun hH => ?_)
      clear hK K hHeld
      have hHeld := hH
      clear hH
      refine Cu.takeH 3 (some 48) (.bool (sf.2 == 0)) rfl rfl (by kernel_rfl) (by kernel_rfl) (by kernel_rfl) (fun _ _ _ h => h) (by rfl) (fun w_ hw => by first | rfl | (go_simp; done) | (go_simp; rfl) | (go_simp; omega)) hHeld ?_
      simp only [Act.put, List.setIfInBounds_toArray, List.set_cons_zero, List.set_cons_succ]
      refine wpAnyH_ready (rs := [4]) (by kernel_rfl) (by simp) (AllReadyH.cons rfl (fun K' hK' => ?_) AllReadyH.nil)
      rw [if_pos (by rfl)]
      obtain ⟨f0, hf0⟩ := hHeld.2.2.1
      refine wp_store_part 38 _ _ rfl rfl w.heap.size 0 rr.v 138 rfl rfl 38 f0 138 hf0 (by omega) infoRc (fun i _ => oneRc rr i) rr.v (fun i hi => by unfold splice; rw [if_pos (by omega), Nat.sub_zero]) ?_
      have hres := hf0.row _ rr.v rfl
      refine hK'.out _ _ ⟨hHeld.1.same (setRow_other _ _ _ _ (by have := X1.ord; omega)), hHeld.2.1.row_other _ _ (by have := X1.ord; omega), ⟨_, hres⟩, hHeld.2.2.2.1.same (fun k hk => setRow_other _ _ _ _ (by have := (hHeld.2.2.2.1.lt k hk).1; have := X1.ord; omega)), below_setRow hHeld.2.2.2.2 (Nat.le_refl _) _⟩ (fun hH => ?_)
      clear hK' K' hHeld hf0
      have hHeld := hH
      clear hH
      generalize hwe : World.setRow _ _ _ = we at hHeld hres ⊢
      clear hwe
      refine Cu.takeH 5 (some 3) (.bool (sf.2 == 0)) rfl rfl (by kernel_rfl) (by kernel_rfl) (by kernel_rfl) (fun _ _ _ h => h) (by rfl) (fun w_ hw => by first | rfl | (go_simp; done) | (go_simp; rfl) | (go_simp; omega)) hHeld ?_
      simp only [Act.put, List.setIfInBounds_toArray, List.set_cons_zero, List.set_cons_succ]
      refine ⟨by kernel_rfl, ?_⟩
      refine NoPanic.normal ?_
      have gB := hHeld.2.2.2.2
      have gO := hHeld.2.2.2.1
      clear hHeld ER X1
      try go_wp2
      (try simp only [Exit.inBlock, Exit.then])
      exact bodyPost_ret (resRcB _ w.heap.size _ _ (.bool (sf.2 == 0)) 2 3 hres rfl rfl _ rfl) rfl ⟨FIN.out _ gO, gB⟩
  · have hEq : (s2.2 != 0) = true := bne_iff_ne.2 hE
    have K8 := hide F8.out.res
    have g8 := F8.out.bel
    have HX : Hid (F = none) := by show _ = _; rw [← HF.out, if_neg hE]
    go_wp2_with (first | refine wpW_build (by rfl) 38 #[] rfl [] (by first | rfl | (simp [Act.eval, Act.put]; done)) _ builtRZ ?_ | refine wpList_storeRc rfl _ _ rfl rfl (w.heap.size) (Rc.zero) rfl rfl _ K8.out ?_ | fail)
    (try simp only [Exit.inBlock, Exit.then])
    exact bodyPost_ret (resRcB _ w.heap.size _ _ (.bool false) 2 3 (K8.out.row _ Rc.zero.v rfl) rfl rfl _ rfl) rfl ⟨by rw [HX.out]; exact ⟨Rc.zero, rfl⟩, below_setRow g8 (Nat.le_refl _) _⟩
end Go.Proofs.YtlohfoggcdaeiaaGreat
