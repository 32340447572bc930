import Derived.Test.YtlohfoggcdaeiaaGreatROpenS
import Derived.Test.YtlohfoggcdaeiaaGreatRRead
import Derived.Deep.DeepCutAuto
import Derived.Deep.Cut
/-
  What is opened of the arguments stays while memory only grows (by hand).
-/
namespace Go.Proofs.YtlohfoggcdaeiaaGreat
open Go.RowKit S
set_option linter.unusedVariables false
set_option linter.unusedSimpArgs false
theorem Slots.belowW {w w' : World} {ad : Option Addr} {l : List Slot} (h : Slots w ad l) (hb : Below w.heap.size w w') : Slots w' ad l := by
  rcases h with rfl | ⟨b, o, h1, h2, h3⟩
  · exact .inl rfl
  · exact .inr ⟨b, o, h1, Nat.lt_of_lt_of_le h2 hb.size, fun i s hs j hj => (hb.cell (p := ⟨b, o + i * 34 + j, none⟩) h2).trans (h3 i s hs j hj)⟩
theorem StAt.below {w w' : World} {s : St} {lo lp : List Upd} {ls : List Slot} (h : StAt w s lo lp ls) (hb : Below w.heap.size w w') : StAt w' s lo lp ls :=
  ⟨h.no, h.np, h.ns, h.o.below hb, h.p.below hb, h.f.belowW hb, h.co, h.cp, h.zo, h.zp, h.zs⟩
theorem Recs.below {w w' : World} {ad : Option Addr} {rs : List (Rc × List Upd)} (h : Recs w ad rs) (hb : Below w.heap.size w w') : Recs w' ad rs := by
  rcases h with rfl | ⟨b, o, h1, h2, h3⟩
  · exact .inl rfl
  · refine .inr ⟨b, o, h1, Nat.lt_of_lt_of_le h2 hb.size, fun i r hr => ?_⟩
    obtain ⟨k1, k2, k3, k4⟩ := h3 i r hr
    exact ⟨fun j hj => (hb.cell (p := ⟨b, o + i * 138 + j, none⟩) h2).trans (k1 j hj), k2, k3.below hb, k4⟩
theorem Recs.get {w : World} {ad : Option Addr} {rs : List (Rc × List Upd)} (h : Recs w ad rs) {i : Nat} {r : Rc × List Upd} (hr : rs[i]? = some r) : ∃ b off, ad = some ⟨b, off, none⟩ ∧ b < w.heap.size ∧ At w b (off + i * 138) r.1.v 138 ∧ r.2.length = r.1.upds.n ∧ Upds w r.1.upds.ad r.2 ∧ r.1.upds.n ≤ r.1.upds.c ∧ r.1.upds.c * 72 ≤ 140737488351232 := by
  rcases h with rfl | ⟨b, o, h1, h2, h3⟩
  · simp at hr
  · obtain ⟨k1, k2, k3⟩ := h3 i r hr
    exact ⟨b, o, h1, h2, k1, k2, k3⟩
end Go.Proofs.YtlohfoggcdaeiaaGreat
/-
  updates: so many updates one behind the other (printed by gen_r18.py).
-/
namespace Go.Proofs.YtlohfoggcdaeiaaGreat
open Go.RowKit S
set_option linter.unusedVariables false
set_option linter.unusedSimpArgs false
open Cu (nb be hl ofL CW Mw CR Mr RS takeS takeA hOf nil8 doneS)
def rdUs : Nat → List UInt8 → Option (List Upd × Nat)
  | 0, _ => some ([], 0)
  | n + 1, L => if (rdL (L.take 69)).2.2 = 0 then (rdUs n (L.drop (rdL (L.take 69)).2.1.toNat)).map (fun p => ((rdL (L.take 69)).1 :: p.1, (rdL (L.take 69)).2.1.toNat + p.2)) else none
def UsP (B : Nat) (R : Option (List Upd × Nat)) (e : Ending) (w : World) : Prop := match R with
  | some (us, a) => ∃ x : Sl, e = .returned (.tuple #[.slice x.ad x.n x.c, .int .i64 (a : Int), .bool true]) ∧ OwnU B w x.v us
  | none => e = .returned (.tuple #[.slice none 0 0, .int .i64 0, .bool false])
theorem rdUs_yes {n : Nat} {L : List UInt8} {u : Upd} {m : Nat} (h : rdL (L.take 69) = (u, (m : Int), 0)) : rdUs (n + 1) L = (rdUs n (L.drop m)).map (fun p => (u :: p.1, m + p.2)) := by
  have e : rdUs (n + 1) L = if (rdL (L.take 69)).2.2 = 0 then (rdUs n (L.drop (rdL (L.take 69)).2.1.toNat)).map (fun p => ((rdL (L.take 69)).1 :: p.1, (rdL (L.take 69)).2.1.toNat + p.2)) else none := rfl
  rw [e, h, if_pos rfl]
  show Option.map (fun p => (u :: p.1, ((m : Int)).toNat + p.2)) (rdUs n (L.drop ((m : Int)).toNat)) = _
  rw [Int.toNat_natCast]
theorem rdUs_no {n : Nat} {L : List UInt8} (h : (rdL (L.take 69)).2.2 ≠ 0) : rdUs (n + 1) L = none := by
  have e : rdUs (n + 1) L = if (rdL (L.take 69)).2.2 = 0 then (rdUs n (L.drop (rdL (L.take 69)).2.1.toNat)).map (fun p => ((rdL (L.take 69)).1 :: p.1, (rdL (L.take 69)).2.1.toNat + p.2)) else none := rfl
  rw [e, if_neg h]
theorem ext_list (b : ByteArray) (i j : Nat) : (b.extract i j).data.toList = (b.data.toList.drop i).take (j - i) := by
  rw [ByteArray.data_extract, Array.toList_extract, List.extract_eq_take_drop]
/-- What is read up to now, and what is left. -/
def UsI (n : Nat) (L : List UInt8) (j k : Nat) (us : List Upd) : Prop := us.length = j ∧ rdUs n L = (rdUs (n - j) (L.drop k)).map (fun p => (us ++ p.1, k + p.2))
theorem UsI.next {n : Nat} {L : List UInt8} {j k m : Nat} {us : List Upd} {u : Upd} (h : UsI n L j k us) (hj : j < n) (hu : rdL ((L.drop k).take 69) = (u, (m : Int), 0)) : UsI n L (j + 1) (k + m) (us ++ [u]) := by
  refine ⟨by rw [List.length_append, h.1]; rfl, ?_⟩
  rw [h.2, show n - j = (n - (j + 1)) + 1 by omega, rdUs_yes hu, List.drop_drop, Option.map_map]
  congr 1
  funext p
  simp only [Function.comp, List.append_assoc, List.singleton_append, Nat.add_assoc]
theorem UsI.stop {n : Nat} {L : List UInt8} {j k : Nat} {us : List Upd} (h : UsI n L j k us) (hj : j < n) (hu : (rdL ((L.drop k).take 69)).2.2 ≠ 0) : rdUs n L = none := by
  rw [h.2, show n - j = (n - (j + 1)) + 1 by omega, rdUs_no hu]; rfl
theorem UsI.fin {n : Nat} {L : List UInt8} {k : Nat} {us : List Upd} (h : UsI n L n k us) : rdUs n L = some (us, k) := by
  rw [h.2, Nat.sub_self]
  show some (us ++ [], k + 0) = _
  rw [List.append_nil, Nat.add_zero]
theorem results_tmp3 {P : Program} {fn : Func} {a b c : Nat} (h : fn.results = #[.tmp a, .tmp b, .tmp c]) (tmps : Array Value) (w : World) (x : Unit) : (results fn tmps).run P w = .ok (.tuple #[tmps.getD a undef, tmps.getD b undef, tmps.getD c undef]) w := by
  simp [results, h]
set_option maxRecDepth 100000 in
set_option maxHeartbeats 40000000 in
theorem updates_any (b : ByteArray) (n : Nat) (hn : n ≤ 65535) (hb : b.size ≤ 140737490000000) (w : World) : Calls Tryz.prog 81 #[.string b, .int .i64 (n : Int)] w fun e w' => UsP w.heap.size (rdUs n b.data.toList) e w' ∧ Below w.heap.size w w' := by
  have hni : (n : Int) ≤ 65535 := by omega
  have hbi : (b.size : Int) ≤ 140737490000000 := by omega
  obtain ⟨L, hL⟩ : ∃ L, b.data.toList = L := ⟨_, rfl⟩
  have hLs : L.length = b.size := by rw [← hL, str_len]
  rw [hL]
  go_enter Tryz.func81, Tryz.ntmps81
  go_wp2
  go_loopw [13, 7, 8] (fun i v a wr => ∃ (j : Nat) (y : Sl) (k : Nat) (us : List Upd), j ≤ n ∧ i = .int .i64 (j : Int) ∧ v = .slice y.ad y.n y.c ∧ a = .int .i64 (k : Int) ∧ k ≤ L.length ∧ UsI n L j k us ∧ OwnU w.heap.size wr y.v us ∧ Below w.heap.size w wr) (fun i _ _ _ => n - (intOf i).toNat)
  case atStart => exact ⟨0, nilS, 0, [], Nat.zero_le _, rfl, rfl, rfl, Nat.zero_le _, ⟨rfl, by simp⟩, OwnU.nil _ _, Below.refl _ _⟩
  case round =>
    obtain ⟨j, y, k, us, hj, rfl, rfl, rfl, hk, hI, hO, hB⟩ := hrel
    have HI := hide hI
    have HO := hide hO
    have hki : (k : Int) ≤ (b.size : Int) := by omega
    by_cases hlt : j < n
    · have hd : decide ((j : Int) < (n : Int)) = true := decide_eq_true (by omega)
      have hd2 : decide (j < n) = true := decide_eq_true hlt
      clear hI hO
      by_cases h69 : k + 69 ≤ b.size
      · have h7 : (k : Int) + 69 ≤ (b.size : Int) := by omega
        obtain ⟨c, hc⟩ : ∃ c, b.extract k (k + 69) = c := ⟨_, rfl⟩
        have hcl : c.data.toList = (L.drop k).take 69 := by rw [← hc, ext_list, hL]; rw [show k + 69 - k = 69 by omega]
        have hcs : c.size ≤ 140737490000000 := by rw [← str_len, hcl, List.length_take]; omega
        have RD := read_any c wr (by omega)
        rw [readC_of, hcl] at RD
        obtain ⟨⟨u, mi, E⟩, hr⟩ : ∃ y, rdL ((L.drop k).take 69) = y := ⟨_, rfl⟩
        rw [hr] at RD
        have RD := hide RD
        have HR := hide hr
        have HC := hide hc
        clear hcl hcs hr hc
        go_wp2_with fail
        rw [HC.out]
        refine RD.out.mono ?_
        rintro e w5 ⟨rfl, hb5⟩
        obtain ⟨w6, w7, hW6, q6, hW7, q7, b7, b6⟩ := newU2 w5 u
        have Q6 := hide q6
        have O5 := hide (HO.out.below hb5 (Nat.le_refl _))
        have O7 := hide (O5.out.below b7 (Nat.le_refl _))
        have B7 : Below w.heap.size w w7 := (hB.trans (hb5.mono hB.size)).trans (b7.mono (Nat.le_trans hB.size hb5.size))
        clear q6 b7 b6 hb5 HO O5 RD hB
        go_upto_region 6 with (first | rw [hW7] | refine wpList_storeU rfl _ _ rfl rfl (w5.heap.size) (u) rfl rfl _ Q6.out ?_ | fail)
        try rw [hW7]
        generalize hg5 : w5.heap.size = g5 at q7 ⊢
        clear hW6 hW7 Q6 hg5
        by_cases hE : E = 0
        · subst hE
          obtain ⟨_, m0, m1, _⟩ := rd_ok _ _ _ HR.out
          obtain ⟨m, rfl⟩ : ∃ m : Nat, mi = (m : Int) := ⟨mi.toNat, by omega⟩
          have ml : m ≤ 69 ∧ m ≤ (L.drop k).length := by rw [List.length_take] at m1; omega
          have mk : k + m ≤ L.length := by have := ml.2; rw [List.length_drop] at this; omega
          have hUn := HI.out.next hlt HR.out
          obtain ⟨v9, w8, w9, RS, RA, O9, gr9, bl9, own9, hw8⟩ := appU_at w7 w.heap.size y.v us u O7.out (by have := HI.out.1; omega) B7.size
          obtain ⟨x9, rfl⟩ := slOf O9
          have B9 : Below w.heap.size w w9 := B7.trans bl9
          have RSH := hide RS
          have RAH : Hid ((Builtin.append_ #[27, 27] 27 #[.slice y.ad y.n y.c, .slice (some ⟨w7.heap.size, 0, none⟩) 1 1]).run Tryz.prog w8 = .ok (.slice x9.ad x9.n x9.c) w9) := RA
          have Q7 := hide q7
          have O9 := hide O9
          have HU := hide hUn
          have k1 : (k : Int) + (m : Int) ≤ 140737490000000 := by omega
          have k2 : (0 : Int) ≤ (m : Int) := by omega
          clear RS RA gr9 bl9 own9 hw8 hUn m0 m1 ml HI O7 q7 HR
          go_wp2_with (first | refine wpW_load_at 36 _ rfl (g5) (0) (by rfl) (by rfl) _ 36 _ (Q7.out.at_ 0 (by omega) (fun i hi => by rw [Nat.zero_add])) Tryz.underlying36 rfl infoU ?_ | refine wpList_slice1 rfl 27 _ rfl (.agg (tabv u.v 36)) rfl RSH.out ?_ | refine wpList_app rfl _ _ _ rfl RAH.out ?_ | fail)
          go_roundw
          case rel => exact ⟨j + 1, x9, k + m, us ++ [u], by omega, by go_num, rfl, by first | rfl | (congr 1), by omega, HU.out, O9.out, B9⟩
          case measure => simp [intOf]; omega
        · have hq : (E != 0) = true := bne_iff_ne.2 hE
          have HX : Hid (rdUs n L = none) := HI.out.stop hlt (by rw [HR.out]; exact hE)
          clear hE
          go_wp2
          (try simp only [Exit.inBlock, Exit.then])
          refine bodyPost_ret (results_tmp3 rfl _ _ ()) rfl ?_
          exact ⟨by rw [HX.out]; rfl, B7⟩
      · have h7 : (b.size : Int) < (k : Int) + 69 := by omega
        obtain ⟨c, hc⟩ : ∃ c, b.extract k b.size = c := ⟨_, rfl⟩
        have hcl : c.data.toList = (L.drop k).take 69 := by rw [← hc, ext_list, hL]; rw [List.take_of_length_le (by rw [List.length_drop, ← hL, str_len]; omega), List.take_of_length_le (by rw [List.length_drop, ← hL, str_len]; omega)]
        have hcs : c.size ≤ 140737490000000 := by rw [← str_len, hcl, List.length_take]; omega
        have RD := read_any c wr (by omega)
        rw [readC_of, hcl] at RD
        obtain ⟨⟨u, mi, E⟩, hr⟩ : ∃ y, rdL ((L.drop k).take 69) = y := ⟨_, rfl⟩
        rw [hr] at RD
        have RD := hide RD
        have HR := hide hr
        have HC := hide hc
        clear hcl hcs hr hc
        go_wp2_with fail
        rw [HC.out]
        refine RD.out.mono ?_
        rintro e w5 ⟨rfl, hb5⟩
        obtain ⟨w6, w7, hW6, q6, hW7, q7, b7, b6⟩ := newU2 w5 u
        have Q6 := hide q6
        have O5 := hide (HO.out.below hb5 (Nat.le_refl _))
        have O7 := hide (O5.out.below b7 (Nat.le_refl _))
        have B7 : Below w.heap.size w w7 := (hB.trans (hb5.mono hB.size)).trans (b7.mono (Nat.le_trans hB.size hb5.size))
        clear q6 b7 b6 hb5 HO O5 RD hB
        go_upto_region 6 with (first | rw [hW7] | refine wpList_storeU rfl _ _ rfl rfl (w5.heap.size) (u) rfl rfl _ Q6.out ?_ | fail)
        try rw [hW7]
        generalize hg5 : w5.heap.size = g5 at q7 ⊢
        clear hW6 hW7 Q6 hg5
        by_cases hE : E = 0
        · subst hE
          obtain ⟨_, m0, m1, _⟩ := rd_ok _ _ _ HR.out
          obtain ⟨m, rfl⟩ : ∃ m : Nat, mi = (m : Int) := ⟨mi.toNat, by omega⟩
          have ml : m ≤ 69 ∧ m ≤ (L.drop k).length := by rw [List.length_take] at m1; omega
          have mk : k + m ≤ L.length := by have := ml.2; rw [List.length_drop] at this; omega
          have hUn := HI.out.next hlt HR.out
          obtain ⟨v9, w8, w9, RS, RA, O9, gr9, bl9, own9, hw8⟩ := appU_at w7 w.heap.size y.v us u O7.out (by have := HI.out.1; omega) B7.size
          obtain ⟨x9, rfl⟩ := slOf O9
          have B9 : Below w.heap.size w w9 := B7.trans bl9
          have RSH := hide RS
          have RAH : Hid ((Builtin.append_ #[27, 27] 27 #[.slice y.ad y.n y.c, .slice (some ⟨w7.heap.size, 0, none⟩) 1 1]).run Tryz.prog w8 = .ok (.slice x9.ad x9.n x9.c) w9) := RA
          have Q7 := hide q7
          have O9 := hide O9
          have HU := hide hUn
          have k1 : (k : Int) + (m : Int) ≤ 140737490000000 := by omega
          have k2 : (0 : Int) ≤ (m : Int) := by omega
          clear RS RA gr9 bl9 own9 hw8 hUn m0 m1 ml HI O7 q7 HR
          go_wp2_with (first | refine wpW_load_at 36 _ rfl (g5) (0) (by rfl) (by rfl) _ 36 _ (Q7.out.at_ 0 (by omega) (fun i hi => by rw [Nat.zero_add])) Tryz.underlying36 rfl infoU ?_ | refine wpList_slice1 rfl 27 _ rfl (.agg (tabv u.v 36)) rfl RSH.out ?_ | refine wpList_app rfl _ _ _ rfl RAH.out ?_ | fail)
          go_roundw
          case rel => exact ⟨j + 1, x9, k + m, us ++ [u], by omega, by go_num, rfl, by first | rfl | (congr 1), by omega, HU.out, O9.out, B9⟩
          case measure => simp [intOf]; omega
        · have hq : (E != 0) = true := bne_iff_ne.2 hE
          have HX : Hid (rdUs n L = none) := HI.out.stop hlt (by rw [HR.out]; exact hE)
          clear hE
          go_wp2
          (try simp only [Exit.inBlock, Exit.then])
          refine bodyPost_ret (results_tmp3 rfl _ _ ()) rfl ?_
          exact ⟨by rw [HX.out]; rfl, B7⟩
    · obtain rfl : n = j := by omega
      have hd : decide ((n : Int) < (n : Int)) = false := by simp
      have HX : Hid (rdUs n L = some (us, k)) := hI.fin
      go_wp2
      (try simp only [Exit.inBlock, Exit.then])
      refine bodyPost_ret (results_tmp3 rfl _ _ ()) rfl ?_
      exact ⟨by rw [HX.out]; exact ⟨y, rfl, hO⟩, hB⟩
end Go.Proofs.YtlohfoggcdaeiaaGreat
/-
  oursFields, cameFields (printed by gen_r19.py).
-/
namespace Go.Proofs.YtlohfoggcdaeiaaGreat
open Go.RowKit S
set_option linter.unusedVariables false
set_option linter.unusedSimpArgs false
open Cu (nb be hl ofL CW Mw CR Mr RS takeS takeA hOf nil8 doneS)
def fldOurs (b : ByteArray) : Option (Rc × List Upd) := match rdUs 1 (b.data.toList.drop 1) with
  | some (us, _) => some (⟨1, us.headD Upd.zero, nilS, 0, 0, 0, z32, z32, z32, 0⟩, [])
  | none => none
set_option maxRecDepth 100000 in
theorem builtRU1 (u : Upd) : Tryz.prog.built 38 [(0, .int .i64 1), (1, .agg (tabv u.v 36))] = some (tabv (Rc.v ⟨1, u, nilS, 0, 0, 0, z32, z32, z32, 0⟩) 138) := by kernel_rfl
theorem rdUs_len : ∀ (n : Nat) (L : List UInt8) (us : List Upd) (a : Nat), rdUs n L = some (us, a) → us.length = n ∧ a ≤ L.length
  | 0, L, us, a, h => by
    have h : some (([] : List Upd), 0) = some (us, a) := h
    cases h
    exact ⟨rfl, Nat.zero_le _⟩
  | n + 1, L, us, a, h => by
    obtain ⟨⟨u, mi, E⟩, hr⟩ : ∃ y, rdL (L.take 69) = y := ⟨_, rfl⟩
    by_cases hE : E = 0
    · subst hE
      obtain ⟨_, m0, m1, _⟩ := rd_ok _ _ _ hr
      obtain ⟨m, rfl⟩ : ∃ m : Nat, mi = (m : Int) := ⟨mi.toNat, by omega⟩
      rw [rdUs_yes hr] at h
      cases h2 : rdUs n (L.drop m) with
      | none => rw [h2] at h; cases h
      | some p =>
        obtain ⟨vs, c⟩ := p
        rw [h2] at h
        have ih := rdUs_len n (L.drop m) vs c h2
        have h : some (u :: vs, m + c) = some (us, a) := h
        cases h
        rw [List.length_take] at m1
        rw [List.length_drop] at ih
        exact ⟨by rw [List.length_cons, ih.1], by omega⟩
    · rw [rdUs_no (by rw [hr]; exact hE)] at h; cases h
set_option maxRecDepth 100000 in
set_option maxHeartbeats 40000000 in
theorem oursFields_any (b : ByteArray) (w : World) (h1 : 1 ≤ b.size) (hb : b.size ≤ 140737490000000) : Calls Tryz.prog 56 #[.string b] w fun e w' => FldP w.heap.size (fldOurs b) e w' ∧ Below w.heap.size w w' := by
  obtain ⟨w1, hW1⟩ : ∃ w1, w.alloc (.cells Tryz.zeroCells38 38) = w1 := ⟨_, rfl⟩
  have r1 : Has w1 w.heap.size 38 Rc.zero.v 138 := by rw [← hW1, zeroRc]; exact Has.new w 38 Rc.zero.v 138 _ rfl
  have b1 : Below w.heap.size w w1 := by rw [← hW1]; exact (Below.refl w.heap.size w).alloc (Nat.le_refl _) _
  obtain ⟨c, hc⟩ : ∃ c, b.extract 1 b.size = c := ⟨_, rfl⟩
  have hcl : c.data.toList = b.data.toList.drop 1 := by rw [← hc, ext_list, List.take_of_length_le (by rw [List.length_drop, str_len]; omega)]
  have hcs : c.size ≤ 140737490000000 := by rw [← str_len, hcl, List.length_drop, str_len]; omega
  have UP := updates_any c 1 (by omega) hcs w1
  rw [hcl] at UP
  have UP := hide UP
  have h1i : (1 : Int) ≤ (b.size : Int) := by omega
  have hbi : (b.size : Int) ≤ 140737490000000 := by omega
  obtain ⟨R, hR⟩ : ∃ R, rdUs 1 (b.data.toList.drop 1) = R := ⟨_, rfl⟩
  unfold fldOurs
  rw [hR] at UP ⊢
  have HR := hide hR
  clear hR hcl hcs
  go_enter Tryz.func56, Tryz.ntmps56
  go_wp2_with fail
  try rw [hc]
  refine UP.out.mono ?_
  rintro e w2 ⟨hP, hb2⟩
  have K2 := hide (r1.below hb2 r1.lt)
  have g2 : Below w.heap.size w w2 := b1.trans (hb2.mono b1.size)
  clear UP hW1 r1 b1 hb2 hc
  cases R with
  | none =>
    obtain rfl := hP
    go_wp2_with (first | refine wpW_build (by rfl) 38 #[] rfl [] (by first | rfl | (simp [Act.eval, Act.put]; done)) _ builtRZ ?_ | refine wpList_storeRc rfl _ _ rfl rfl (w.heap.size) (Rc.zero) rfl rfl _ K2.out ?_ | fail)
    (try simp only [Exit.inBlock, Exit.then])
    exact bodyPost_ret (resRcB _ w.heap.size _ _ (.bool false) 2 3 (K2.out.row _ Rc.zero.v rfl) rfl rfl _ rfl) rfl ⟨⟨Rc.zero, rfl⟩, below_setRow g2 (Nat.le_refl _) _⟩
  | some p =>
    obtain ⟨us, a⟩ := p
    obtain ⟨x, rfl, hO⟩ := hP
    obtain ⟨hl, _⟩ := rdUs_len _ _ _ _ HR.out
    obtain ⟨u, rfl⟩ : ∃ u, us = [u] := by
      match us, hl with
      | [u], _ => exact ⟨u, rfl⟩
    obtain ⟨xad, xn, xc⟩ := x
    obtain ⟨hxn, hU, _⟩ := OwnU.sl hO
    have hxn : 1 = xn := hxn
    subst hxn
    obtain ⟨bb, oo, hxa, _, hA⟩ := hU.get 0 u rfl
    have hxa : xad = some ⟨bb, oo, none⟩ := hxa
    subst hxa
    have HA := hide hA
    clear hO hU hl hA
    dsimp only
    go_wp2_with (first | refine wpW_load_at 36 _ rfl (bb) (oo + 0 * 36) (by rfl) (by rfl) _ 36 _ (HA.out) Tryz.underlying36 rfl infoU ?_ | refine wpW_build (by rfl) 38 #[(0, .const (.int .i64 1)), (1, .tmp 19)] rfl [(0, .int .i64 1), (1, .agg (tabv u.v 36))] (by first | rfl | (simp [Act.eval, Act.put]; done)) _ (builtRU1 u) ?_ | refine wpList_storeRc rfl _ _ rfl rfl (w.heap.size) (⟨1, u, nilS, 0, 0, 0, z32, z32, z32, 0⟩) rfl rfl _ K2.out ?_ | fail)
    (try simp only [Exit.inBlock, Exit.then])
    exact bodyPost_ret (resRcB _ w.heap.size _ _ (.bool true) 2 3 (K2.out.row _ (Rc.v ⟨1, u, nilS, 0, 0, 0, z32, z32, z32, 0⟩) rfl) rfl rfl _ rfl) rfl ⟨⟨nilS, rfl, OwnU.nil _ _⟩, below_setRow g2 (Nat.le_refl _) _⟩
end Go.Proofs.YtlohfoggcdaeiaaGreat
