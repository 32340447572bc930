import Derived.Test.YtlohfoggcdaeiaaGreatRDWrite
import Derived.Test.YtlohfoggcdaeiaaGreatRRdB
import Derived.Test.YtlohfoggcdaeiaaGreatURSize
import Derived.Test.YtlohfoggcdaeiaaGreatURRead
import Derived.Deep.DeepCutAuto
import Derived.Deep.Cut
/-
  The document's Read of a record: its variables, count, one update out of 69 bytes (by hand).
-/
namespace Go.Proofs.YtlohfoggcdaeiaaGreat
open Go.RowKit S
set_option linter.unusedVariables false
set_option linter.unusedSimpArgs false
open Cu (nb be hl ofL CW Mw CR Mr RS takeS takeA hOf nil8 doneS)
/-- Read's variables: its answer, the reader at p, the record at g5. -/
structure FD (w0 : World) (p g5 : Nat) (st : RS) (r : Rc) (w : World) : Prop where
  cr : Cu.RR w p st
  res : Has w w0.heap.size 38 Rc.zero.v 138
  var : Has w g5 38 r.v 138
  bel : Below w0.heap.size w0 w
  ord : w0.heap.size < p ∧ p < g5
section
variable {w0 : World} {p g5 : Nat} {st st' : RS} {r r' : Rc} {w w' : World}
theorem FD.call (h : FD w0 p g5 st r w) (hC : Cu.RR w' p st') (hM : Mr p w w') : FD w0 p g5 st' r w' :=
  ⟨hC, h.res.mr hM (by have := h.ord; omega), h.var.mr hM (by have := h.ord; omega), h.bel.trans (hM.below (by have := h.ord; omega) h.bel.size), h.ord⟩
theorem FD.set (h : FD w0 p g5 st r w) (hv : Has w' g5 38 r'.v 138) (he : ∀ k, k ≠ g5 → w'.heap[k]? = w.heap[k]?) (hb : Below w0.heap.size w w') : FD w0 p g5 st r' w' := by
  have ho := h.ord
  exact ⟨h.cr.same (he p (by omega)), h.res.same (he _ (by omega)), hv, h.bel.trans hb, ho⟩
theorem FD.cell (h : FD w0 p g5 st r w) (i : Nat) (v : Value) (hv : Has (w.setCell ⟨g5, i, none⟩ v) g5 38 r'.v 138) : FD w0 p g5 st r' (w.setCell ⟨g5, i, none⟩ v) :=
  h.set hv (fun k hk => Below.heap_setCell w ⟨g5, i, none⟩ v k hk) ((Below.refl _ _).setCell (by have := h.ord; show w0.heap.size ≤ g5; omega) _)
theorem FD.row (h : FD w0 p g5 st r w) : FD w0 p g5 st r' (w.setRow g5 (tabv r'.v 138)) :=
  h.set (h.var.row _ r'.v rfl) (fun k hk => setRow_other w g5 k _ hk) (below_setRow (Below.refl _ _) (by have := h.ord; omega) _)
theorem FD.low (h : FD w0 p g5 st r w) (hb : Below w.heap.size w w') : FD w0 p g5 st r w' :=
  ⟨h.cr.below hb, h.res.below hb h.res.lt, h.var.below hb h.var.lt, h.bel.trans (hb.mono h.bel.size), h.ord⟩
end
theorem mr_low {p B : Nat} {w w1 w' : World} (h : Mr p w w1) (hb : Below B w1 w') (hB : w.heap.size ≤ B) : Mr p w w' :=
  ⟨hb.os.trans h.os, hb.tape.trans h.tape, hb.output.trans h.output, Nat.le_trans h.size hb.size, fun k hk hp hn => (hb.block k (by omega)).trans (h.block k hk hp), fun g hg => by simp [Value.ownBlock] at hg⟩
theorem part_take (r : List UInt8) (a b : Nat) (h : a + b ≤ 68) : ((r.take 68).drop a).take b = (r.drop a).take b := by
  rw [List.drop_take, List.take_take, Nat.min_eq_left (by omega)]
theorem rdL_take (L : List UInt8) : rdL (L.take 69) = rdL L := by
  cases L with
  | nil => rfl
  | cons c r =>
    rw [List.take_succ_cons]
    have hl : (r.take 68).length = min 68 r.length := List.length_take
    have h1 : (r.take 68).take 2 = r.take 2 := by have := part_take r 0 2 (by omega); simpa using this
    by_cases h42 : r.length ≤ 68
    · rw [List.take_of_length_le h42]
    simp only [rdL]
    rw [h1, part_take r 2 8 (by omega), part_take r 10 32 (by omega), part_take r 2 32 (by omega), part_take r 2 2 (by omega)]
    rw [if_neg (show ¬ (r.take 68).length < 42 by omega), if_neg (show ¬ (r.take 68).length < 34 by omega), if_neg (show ¬ (r.take 68).length < 4 by omega)]
    rw [if_neg (show ¬ r.length < 42 by omega), if_neg (show ¬ r.length < 34 by omega), if_neg (show ¬ r.length < 4 by omega)]
    by_cases h64 : 64 < be ((r.drop 2).take 2)
    · rw [if_pos h64]
      try rw [if_pos h64]
    · rw [if_neg h64]
      rw [if_neg (show ¬ (r.take 68).length < 4 + be ((r.drop 2).take 2) by omega)]
      try rw [if_neg h64]
      rw [if_neg (show ¬ r.length < 4 + be ((r.drop 2).take 2) by omega), part_take r 4 _ (by omega)]
theorem raw_ok (l : List UInt8) (m : Nat) (h : m ≤ l.length) : Cu.rawS (m : Int) (ofL l, 0) = (ofL (l.drop m), 0) := by
  unfold Cu.rawS Cu.rawMid
  rw [if_neg (by omega)]
  exact takeS_ok l m h
theorem num2_ok (st : RS) (h : 0 < Cu.num 2 st) : (takeS 2 st).2 = 0 := by
  unfold Cu.num takeA at h
  unfold takeS
  by_cases h0 : st.2 = 0
  · rw [if_pos h0] at h ⊢
    by_cases h2 : (st.1.size : Int) < 2
    · rw [if_pos h2] at h; exact absurd h (by decide)
    · rw [if_neg h2]
  · rw [if_neg h0] at h; exact absurd h (by decide)
set_option maxRecDepth 100000 in
set_option maxHeartbeats 4000000 in
theorem dcount (p : Nat) (st : RS) (w : World) (h : Cu.RR w p st) : Calls Tryz.prog 43 #[.pointer (some ⟨p, 0, none⟩)] w fun e w' => e = .returned (.int .i64 (Cu.num 2 st : Int)) ∧ Cu.RR w' p (takeS 2 st) ∧ Mr p w w' := by
  obtain ⟨nn, hnn⟩ : ∃ nn, Cu.num 2 st = nn := ⟨_, rfl⟩
  have hnl : nn < 65536 := by rw [← hnn]; exact num2_le _
  have KC := hide (conv16i nn hnl)
  rw [hnn]
  go_enter Tryz.func43, Tryz.ntmps43
  go_wp2_with fail
  refine (Cu.xU16 p st _ h).mono ?_
  rintro e w1 ⟨rfl, hR, hM⟩
  rw [show be (takeA 2 st).data.toList = nn from hnn]
  go_wp2_with (first | refine Cu.wpList_conv rfl _ _ _ rfl .u16 .i64 (nn : Int) (nn : Int) (by rfl) (KC.out _) ?_ | fail)
  go_ret
  exact ⟨rfl, hR, hM⟩
end Go.Proofs.YtlohfoggcdaeiaaGreat
/-
  The document's came (by hand).
-/
namespace Go.Proofs.YtlohfoggcdaeiaaGreat
open Go.RowKit S
set_option linter.unusedVariables false
set_option linter.unusedSimpArgs false
open Cu (nb be hl ofL CW Mw CR Mr RS takeS takeA hOf nil8 doneS)
def CmP (p B : Nat) (f : Int) (L : List UInt8) (R : Option (List Upd × Nat)) (e : Ending) (w : World) : Prop := match R with
  | some (us, a) => ∃ x : Sl, e = .returned (.tuple #[.slice x.ad x.n x.c, .bool true]) ∧ OwnU B w x.v us ∧ Cu.RR w p (ofL (L.drop a), f)
  | none => e = .returned (.tuple #[.slice none 0 0, .bool false]) ∧ ∃ st, Cu.RR w p st
set_option maxRecDepth 100000 in
set_option maxHeartbeats 40000000 in
theorem dcame (p : Nat) (st : RS) (w : World) (h : Cu.RR w p st) (hz : st.1.size ≤ 140737490000000) : Calls Tryz.prog 44 #[.pointer (some ⟨p, 0, none⟩)] w fun e w' => CmP p w.heap.size (takeS 2 st).2 (takeS 2 st).1.data.toList (rdUs (Cu.num 2 st) (takeS 2 st).1.data.toList) e w' ∧ Mr p w w' := by
  obtain ⟨n, hnn⟩ : ∃ nn, Cu.num 2 st = nn := ⟨_, rfl⟩
  have hnl : n < 65536 := by rw [← hnn]; exact num2_le _
  obtain ⟨L, hL⟩ : ∃ L, (takeS 2 st).1.data.toList = L := ⟨_, rfl⟩
  obtain ⟨f, hf⟩ : ∃ f, (takeS 2 st).2 = f := ⟨_, rfl⟩
  have hLs : L.length ≤ 140737490000000 := by rw [← hL, str_len]; exact Nat.le_trans (takeS_le _ _) hz
  have hst : takeS 2 st = (ofL L, f) := by rw [← hL, Cu.ofL_of, ← hf]
  have hf0 : Hid (0 < n → f = 0) := fun hp => by rw [← hf]; exact num2_ok st (by rw [hnn]; exact hp)
  have CN := dcount p st w h
  rw [hnn, hst] at CN
  rw [hL, hf, hnn]
  have CN := hide CN
  have HP : Hid (p < w.heap.size) := h.lt
  have hni : (n : Int) < 65536 := by omega
  clear hnn hL hf hst hz h
  go_enter Tryz.func44, Tryz.ntmps44
  go_wp2_with fail
  refine CN.out.mono ?_
  rintro e w1 ⟨rfl, hR1, hM1⟩
  clear CN
  go_wp2
  go_loopw [5, 6] (fun v i wr => ∃ (j : Nat) (y : Sl) (k : Nat) (us : List Upd), j ≤ n ∧ i = .int .i64 (j : Int) ∧ v = .slice y.ad y.n y.c ∧ k ≤ L.length ∧ UsI n L j k us ∧ OwnU w.heap.size wr y.v us ∧ Cu.RR wr p (ofL (L.drop k), f) ∧ Mr p w wr) (fun _ i _ => n - (intOf i).toNat)
  case atStart => exact ⟨0, nilS, 0, [], Nat.zero_le _, rfl, rfl, Nat.zero_le _, ⟨rfl, by simp⟩, OwnU.nil _ _, by rw [List.drop_zero]; exact hR1, hM1⟩
  case round =>
    obtain ⟨j, y, k, us, hj, rfl, rfl, hk, hI, hO, hR, hM⟩ := hrel
    clear hR1 hM1
    have HI := hide hI
    have HO := hide hO
    have HR0 := hide hR
    have HM := hide hM
    by_cases hlt : j < n
    · have hd : decide ((j : Int) < (n : Int)) = true := decide_eq_true (by omega)
      have hd2 : decide (j < n) = true := decide_eq_true hlt
      have hf1 : f = 0 := hf0.out (by omega)
      subst hf1
      obtain ⟨c, hc⟩ : ∃ c, ofL (L.drop k) = c := ⟨_, rfl⟩
      have hcl : c.data.toList = L.drop k := by rw [← hc, Cu.ofL_data]
      have hcs : c.size ≤ 281474976710656 := by rw [← str_len, hcl, List.length_drop]; omega
      have RD := rread_any c wr hcs
      rw [hcl] at RD
      obtain ⟨⟨u, mi, E⟩, hr⟩ : ∃ y, rdL (L.drop k) = y := ⟨_, rfl⟩
      rw [hr] at RD
      have RD := hide RD
      have HR : Hid (rdL ((L.drop k).take 69) = (u, mi, E)) := by show _ = _; rw [rdL_take]; exact hr
      have HR' := hide hr
      have XR := Cu.xRest p _ wr hR
      have XR := hide XR
      have HC := hide hc
      clear hcl hcs hr hc hI hO hR hM
      go_wp2_with fail
      refine XR.out.mono ?_
      rintro e wy ⟨rfl, rfl⟩
      rw [HC.out]
      clear XR
      go_wp2_with fail
      refine RD.out.mono ?_
      rintro e w5 ⟨rfl, hb5⟩
      obtain ⟨w6, w7, hW6, q6, hW7, q7, b7, b6⟩ := newU2 w5 u
      have Q6 := hide q6
      have O5 := hide (HO.out.below hb5 (Nat.le_refl _))
      have O7 := hide (O5.out.below b7 (Nat.le_refl _))
      have R7 := hide ((HR0.out.below hb5).below b7)
      have M7 := hide (HM.out.trans ((Mr.of (p := p) hb5).trans (Mr.of (p := p) b7)))
      have hsz5 : w.heap.size ≤ w5.heap.size := Nat.le_trans HM.out.size hb5.size
      clear q6 b6 HO O5 RD HR0 HM
      have hg5p : Hid (w5.heap.size ≠ p) := fun e => by have := HP.out; omega
      clear b7 hb5 hsz5
      go_upto_region 7 with (first | rw [hW7] | refine wpList_storeU rfl _ _ rfl rfl (w5.heap.size) (u) rfl rfl _ Q6.out ?_ | fail)
      try rw [hW7]
      generalize hg5 : w5.heap.size = g5 at q7 hg5p ⊢
      clear hW6 hW7 Q6 hg5
      by_cases hE : E = 0
      · subst hE
        obtain ⟨_, m0, m1, _⟩ := rd_ok _ _ _ HR'.out
        obtain ⟨m, rfl⟩ : ∃ m : Nat, mi = (m : Int) := ⟨mi.toNat, by omega⟩
        have ml : m ≤ (L.drop k).length := by omega
        have mk : k + m ≤ L.length := by rw [List.length_drop] at ml; omega
        have hUn := HI.out.next hlt HR.out
        have hq : ((0 : Int) != 0) = false := rfl
        have XW := Cu.xRaw (m : Int) p _ w7 R7.out
        rw [raw_ok _ m ml, List.drop_drop] at XW
        have XW := hide XW
        have Q7 := hide q7
        have HU := hide hUn
        clear m0 m1 ml HI HR HR' q7 hUn
        go_wp2_with fail
        refine XW.out.mono ?_
        rintro e w8 ⟨rfl, hR8, hM8⟩
        have Q8 := hide (Q7.out.mr hM8 hg5p.out)
        have O8 : OwnU w.heap.size w8 y.v us := O7.out.same fun k hk => hM8.block k (O7.out.lt k hk).2 (by have := (O7.out.lt k hk).1; have := HP.out; omega)
        have M8 := M7.out.trans hM8
        obtain ⟨v9, wA, w9, RS, RA, O9, gr9, bl9, own9, hwA⟩ := appU_at w8 w.heap.size y.v us u O8 (by have := HU.out.1; simp at this; omega) M8.size
        obtain ⟨x9, rfl⟩ := slOf O9
        have RSH := hide RS
        have RAH : Hid ((Builtin.append_ #[27, 27] 27 #[.slice y.ad y.n y.c, .slice (some ⟨w8.heap.size, 0, none⟩) 1 1]).run Tryz.prog wA = .ok (.slice x9.ad x9.n x9.c) w9) := RA
        have O9 := hide O9
        have R9 := hide (hR8.same (bl9.block p HP.out))
        have M9 := hide (mr_low M8 bl9 (Nat.le_refl _))
        clear RS RA gr9 bl9 own9 hwA O7 O8 hR8 hM8 M7 M8 R7 Q7 XW hq
        go_wp2_with (first | refine wpW_load_at 36 _ rfl (g5) (0) (by rfl) (by rfl) _ 36 _ (Q8.out.at_ 0 (by omega) (fun i hi => by rw [Nat.zero_add])) Tryz.underlying36 rfl infoU ?_ | refine wpList_slice1 rfl 27 _ rfl (.agg (tabv u.v 36)) rfl RSH.out ?_ | refine wpList_app rfl _ _ _ rfl RAH.out ?_ | fail)
        go_roundw
        case rel => exact ⟨j + 1, x9, k + m, us ++ [u], by omega, by go_num, rfl, by omega, HU.out, O9.out, R9.out, M9.out⟩
        case measure => simp [intOf]; omega
      · have hq : (E != 0) = true := bne_iff_ne.2 hE
        have HX : Hid (rdUs n L = none) := HI.out.stop hlt (by rw [HR.out]; exact hE)
        clear hE
        go_wp2
        go_ret2
        exact ⟨by rw [HX.out]; exact ⟨rfl, _, R7.out⟩, M7.out⟩
    · obtain rfl : n = j := by omega
      have hd : decide ((n : Int) < (n : Int)) = false := decide_eq_false (by omega)
      have hd2 : decide (n < n) = false := decide_eq_false (by omega)
      have HX : Hid (rdUs n L = some (us, k)) := HI.out.fin
      clear hI hO hR hM
      go_wp2
      go_ret2
      exact ⟨by rw [HX.out]; exact ⟨y, rfl, HO.out, HR0.out⟩, HM.out⟩
end Go.Proofs.YtlohfoggcdaeiaaGreat
/-
  The document's Read of a record, kind 0 (printed by gen_r33.py).
-/
namespace Go.Proofs.YtlohfoggcdaeiaaGreat
open Go.RowKit S
set_option linter.unusedVariables false
set_option linter.unusedSimpArgs false
open Cu (nb be hl ofL CW Mw CR Mr RS takeS takeA hOf nil8 doneS)
set_option maxRecDepth 100000 in
set_option maxHeartbeats 40000000 in
theorem dread_0 (b : ByteArray) (w : World) (hb : b.size ≤ 140737490000000) (hk : Cu.num 1 (b, 0) ≠ 1 ∧ Cu.num 1 (b, 0) ≠ 2 ∧ Cu.num 1 (b, 0) ≠ 3 ∧ Cu.num 1 (b, 0) ≠ 4 ∧ Cu.num 1 (b, 0) ≠ 5 ∧ Cu.num 1 (b, 0) ≠ 6) : Calls Tryz.prog 22 #[.string b] w fun e w' => RdP w.heap.size (rdOf (fldR b)) e w' ∧ Below w.heap.size w w' := by
  obtain ⟨w1, hW1⟩ : ∃ w1, w.alloc (.cells Tryz.zeroCells38 38) = w1 := ⟨_, rfl⟩
  have r1 : Has w1 w.heap.size 38 Rc.zero.v 138 := by rw [← hW1, zeroRc]; exact Has.new w 38 Rc.zero.v 138 _ rfl
  have b1 : Below w.heap.size w w1 := by rw [← hW1]; exact (Below.refl w.heap.size w).alloc (Nat.le_refl _) _
  go_enter Tryz.func22, Tryz.ntmps22
  go_wp2_with fail
  refine (Cu.xOpen b _).mono ?_
  rintro e w2 ⟨rfl, hC2, hb2, hs2⟩
  obtain ⟨p, hp⟩ : ∃ p, w1.heap.size = p := ⟨_, rfl⟩
  rw [hp] at hC2 ⊢
  have hgp : w.heap.size < p := by rw [← hp]; exact r1.lt
  have q1 := r1.below hb2 r1.lt
  have g2 : Below w.heap.size w w2 := b1.trans (hb2.mono b1.size)
  clear hW1 r1 b1 hb2 hs2 hp
  go_wp2_with fail
  refine (Cu.xU8 p (b, 0) _ hC2).mono ?_
  rintro e w3 ⟨rfl, hC3, hM3⟩
  have q3 := q1.mr hM3 (by omega)
  have g3 : Below w.heap.size w w3 := g2.trans (hM3.below (by omega) g2.size)
  obtain ⟨kn, hkn⟩ : ∃ kn, Cu.num 1 (b, 0) = kn := ⟨_, rfl⟩
  have hkl : kn < 256 := by rw [← hkn]; exact num1_le _
  rw [show be (takeA 1 (b, 0)).data.toList = kn from hkn]
  obtain ⟨st, hst⟩ : ∃ st, takeS 1 (b, 0) = st := ⟨_, rfl⟩
  rw [hst] at hC3
  have KC := hide (conv8i kn hkl)
  obtain ⟨w4, w5, hW4, q4, hW5, q5, b5⟩ := newRc w3 ⟨(kn : Int), Upd.zero, nilS, 0, 0, 0, z32, z32, z32, 0⟩
  have Q4 := hide q4
  have F5 : Hid (FD w p w3.heap.size st ⟨(kn : Int), Upd.zero, nilS, 0, 0, 0, z32, z32, z32, 0⟩ w5) := ⟨hC3.same (b5.block p hC3.lt), q3.below b5 q3.lt, q5, g3.trans (b5.mono g3.size), hgp, hC3.lt⟩
  have HKN := hide hkn
  have HST := hide hst
  rw [hkn] at hk
  have HK := hide hk
  clear hk hkn hst hC2 hC3 hM3 q1 q3 g2 g3 q4 q5 b5
  go_upto_region 3 with (first | rw [hW5] | refine Cu.wpList_conv rfl _ _ _ rfl .u8 .i64 (kn : Int) (kn : Int) (by rfl) (KC.out _) ?_ | refine wpW_build (by rfl) 38 #[(0, .tmp 17)] rfl [(0, .int .i64 (kn : Int))] (by first | rfl | (simp [Act.eval, Act.put]; done)) _ (builtRK (kn : Int)) ?_ | refine wpList_storeRc rfl _ _ rfl rfl (w3.heap.size) (⟨(kn : Int), Upd.zero, nilS, 0, 0, 0, z32, z32, z32, 0⟩) rfl rfl _ Q4.out ?_ | fail)
  try rw [hW5]
  generalize hg5 : w3.heap.size = g5 at F5 ⊢
  clear hW4 hW5 hg5 Q4 KC
  obtain ⟨K, hKn⟩ : ∃ K : Int, (kn : Int) = K := ⟨_, rfl⟩
  rw [hKn] at F5 ⊢
  have k1 : (K == 1) = false := beq_false_of_ne (by have := HK.out; omega)
  have k2 : (K == 2) = false := beq_false_of_ne (by have := HK.out; omega)
  have k3 : (K == 3) = false := beq_false_of_ne (by have := HK.out; omega)
  have k4 : (K == 4) = false := beq_false_of_ne (by have := HK.out; omega)
  have k5 : (K == 5) = false := beq_false_of_ne (by have := HK.out; omega)
  have k6 : (K == 6) = false := beq_false_of_ne (by have := HK.out; omega)
  have c0 : w5.cell? ⟨g5, 0, none⟩ = some (.int .i64 K) := F5.out.var.cell 0 (by omega)
  go_upto_region 26 with fail
  clear c0 k1 k2 k3 k4 k5 k6
  have OT : Hid (OwnU (w.heap.size + 1) w5 nilS.v []) := OwnU.nil _ _
  have HRR : Hid (fldR b = if (st).2 = 0 then some (⟨K, Upd.zero, nilS, 0, 0, 0, z32, z32, z32, 0⟩, []) else none) := by
    show _ = _
    have hk := HK.out
    unfold fldR
    rw [HKN.out, if_neg (by omega), if_neg (by omega)]
    unfold fldO fldA
    rw [HKN.out, HST.out]
    rw [show (fldK (kn : Int) st) = (⟨K, Upd.zero, nilS, 0, 0, 0, z32, z32, z32, 0⟩, st) by unfold fldK; rw [if_neg (by omega), if_neg (by omega), if_neg (by omega), if_neg (by omega), hKn]]
  obtain ⟨r0, hr0⟩ : ∃ z : Rc, z = ⟨K, Upd.zero, nilS, 0, 0, 0, z32, z32, z32, 0⟩ := ⟨_, rfl⟩
  obtain ⟨sf, hsf⟩ : ∃ z, st = z := ⟨_, rfl⟩
  obtain ⟨x, hx⟩ : ∃ z, nilS = z := ⟨_, rfl⟩
  obtain ⟨us, hus⟩ : ∃ z : List Upd, [] = z := ⟨_, rfl⟩
  have FT : Hid (FD w p g5 sf (setU r0 x) w5) := by show FD _ _ _ _ _ _; rw [hr0, ← hx, ← hsf]; exact F5.out
  have hu5 : us.length ≤ 65535 := by rw [← hus]; exact Nat.zero_le _
  rw [hx, hus] at OT
  rw [hsf, ← hr0, hus] at HRR
  clear hKn hkl F5 hr0 hsf hx hus HKN HST HK
  have hxn : x.n = us.length := (OwnU.sl OT.out).1.symm
  have WR := hide (dwrite_any (setU r0 x) us hxn.symm (by show x.n ≤ _; omega) w5 (OwnU.sl OT.out).2.1)
  have HVX : Hid (validR (setU r0 x) us = validR (setU r0 (lenS us)) us) := validR_sl r0 x (lenS us) us hxn
  have HBX : Hid (bytesR (setU r0 x) us = bytesR (setU r0 (lenS us)) us) := bytesR_sl r0 x (lenS us) us hxn
  cases hv : validR (setU r0 (lenS us)) us with
  | false =>
    rw [show wrS (setU r0 x) us = nilB by unfold wrS; rw [HVX.out, hv]; rfl, show wrE (setU r0 x) us = 170 by unfold wrE; rw [HVX.out, hv]; rfl] at WR
    have HX : Hid (rdOf (fldR b) = none) := by
      show _ = _
      rw [HRR.out]
      by_cases hq : sf.2 = 0
      · rw [if_pos hq]; unfold rdOf; dsimp only; rw [hv]; rfl
      · rw [if_neg hq]; rfl
    clear HVX HBX HRR hv
    go_wp2_with (first | refine wpW_load_at 38 _ rfl (g5) (0) (by rfl) (by rfl) _ 138 _ (FT.out.var.at_ 0 (by omega) (fun i hi => by rw [Nat.zero_add])) Tryz.underlying38 rfl infoRc ?_ | fail)
    refine WR.out.mono ?_
    rintro e wB ⟨rfl, hbB⟩
    have FB := hide (FT.out.low hbB)
    by_cases hs : sf.2 = 0
    · have hq : (sf.2 != 0) = false := by rw [hs]; rfl
      clear hs hbB WR FT
      have XE := hide (Cu.xErr p sf wB FB.out.cr)
      go_wp2_with fail
      refine XE.out.mono ?_
      rintro e wy ⟨rfl, rfl⟩
      clear XE
      have K8 := hide FB.out.res
      have g8 := FB.out.bel
      clear FB
      go_wp2_with (first | refine wpW_build (by rfl) 38 #[] rfl [] (by first | rfl | (simp [Act.eval, Act.put]; done)) _ builtRZ ?_ | refine wpList_storeRc rfl _ _ rfl rfl (w.heap.size) (Rc.zero) rfl rfl _ K8.out ?_ | fail)
      (try simp only [Exit.inBlock, Exit.then])
      exact bodyPost_ret (resRc3 _ w.heap.size _ _ (.int .i64 0) (.int .i64 170) 2 3 4 (K8.out.row _ Rc.zero.v rfl) rfl rfl rfl _ rfl) rfl ⟨by rw [HX.out]; rfl, below_setRow g8 (Nat.le_refl _) _⟩
    · have hq : (sf.2 != 0) = true := bne_iff_ne.2 hs
      clear hs hbB WR FT
      have XE := hide (Cu.xErr p sf wB FB.out.cr)
      go_wp2_with fail
      refine XE.out.mono ?_
      rintro e wy ⟨rfl, rfl⟩
      clear XE
      have K8 := hide FB.out.res
      have g8 := FB.out.bel
      clear FB
      go_wp2_with (first | refine wpW_build (by rfl) 38 #[] rfl [] (by first | rfl | (simp [Act.eval, Act.put]; done)) _ builtRZ ?_ | refine wpList_storeRc rfl _ _ rfl rfl (w.heap.size) (Rc.zero) rfl rfl _ K8.out ?_ | fail)
      (try simp only [Exit.inBlock, Exit.then])
      exact bodyPost_ret (resRc3 _ w.heap.size _ _ (.int .i64 0) (.int .i64 170) 2 3 4 (K8.out.row _ Rc.zero.v rfl) rfl rfl rfl _ rfl) rfl ⟨by rw [HX.out]; rfl, below_setRow g8 (Nat.le_refl _) _⟩
  | true =>
    have hbl := bytesR_len hv rfl
    obtain ⟨N, hN⟩ : ∃ N, (bytesR (setU r0 (lenS us)) us).length = N := ⟨_, rfl⟩
    rw [hN] at hbl
    rw [show wrS (setU r0 x) us = ofL (bytesR (setU r0 (lenS us)) us) by unfold wrS; rw [if_pos (by rw [HVX.out, hv]), HBX.out], show wrE (setU r0 x) us = 0 by unfold wrE; rw [if_pos (by rw [HVX.out, hv])]] at WR
    obtain ⟨t, ht⟩ : ∃ t, ofL (bytesR (setU r0 (lenS us)) us) = t := ⟨_, rfl⟩
    have hts : t.size = N := by rw [← ht, Cu.ofL_size]; exact hN
    rw [ht] at WR
    by_cases hs : sf.2 = 0
    · have HX : Hid (rdOf (fldR b) = some (r0, us, N)) := by show _ = _; rw [HRR.out, if_pos hs]; unfold rdOf; dsimp only; rw [if_pos hv, hN]
      have hq : (sf.2 != 0) = false := by rw [hs]; rfl
      clear HVX HBX HRR hv ht hN
      go_wp2_with (first | refine wpW_load_at 38 _ rfl (g5) (0) (by rfl) (by rfl) _ 138 _ (FT.out.var.at_ 0 (by omega) (fun i hi => by rw [Nat.zero_add])) Tryz.underlying38 rfl infoRc ?_ | fail)
      refine WR.out.mono ?_
      rintro e wB ⟨rfl, hbB⟩
      have FB := hide (FT.out.low hbB)
      have OB : Hid (OwnU (w.heap.size + 1) wB x.v us) := OT.out.below hbB (Nat.le_refl _)
      clear hs hbB WR FT OT
      have XE := hide (Cu.xErr p sf wB FB.out.cr)
      go_wp2_with fail
      refine XE.out.mono ?_
      rintro e wy ⟨rfl, rfl⟩
      clear XE
      have K8 := hide FB.out.res
      have Q8 := hide FB.out.var
      have g8 := FB.out.bel
      clear FB
      go_wp2_with (first | refine wpW_load_at 38 _ rfl (g5) (0) (by rfl) (by rfl) _ 138 _ (Q8.out.at_ 0 (by omega) (fun i hi => by rw [Nat.zero_add])) Tryz.underlying38 rfl infoRc ?_ | refine wpList_storeRc rfl _ _ rfl rfl (w.heap.size) (setU r0 x) rfl rfl _ K8.out ?_ | fail)
      (try simp only [Exit.inBlock, Exit.then])
      exact bodyPost_ret (resRc3 _ w.heap.size _ _ (.int .i64 (N : Int)) (.int .i64 0) 2 3 4 (K8.out.row _ (Rc.v (setU r0 x)) rfl) rfl (by first | rfl | (rw [← hts]; rfl)) rfl _ rfl) rfl ⟨by rw [HX.out]; exact ⟨x, rfl, (OB.out.same fun k hk => setRow_other _ _ _ _ (by have := (OB.out.lt k hk).1; omega)).mono (by omega)⟩, below_setRow g8 (Nat.le_refl _) _⟩
    · have HX : Hid (rdOf (fldR b) = none) := by show _ = _; rw [HRR.out, if_neg hs]; rfl
      have hq : (sf.2 != 0) = true := bne_iff_ne.2 hs
      clear HVX HBX HRR hv ht hN
      go_wp2_with (first | refine wpW_load_at 38 _ rfl (g5) (0) (by rfl) (by rfl) _ 138 _ (FT.out.var.at_ 0 (by omega) (fun i hi => by rw [Nat.zero_add])) Tryz.underlying38 rfl infoRc ?_ | fail)
      refine WR.out.mono ?_
      rintro e wB ⟨rfl, hbB⟩
      have FB := hide (FT.out.low hbB)
      clear hs hbB WR FT
      have XE := hide (Cu.xErr p sf wB FB.out.cr)
      go_wp2_with fail
      refine XE.out.mono ?_
      rintro e wy ⟨rfl, rfl⟩
      clear XE
      have K8 := hide FB.out.res
      have g8 := FB.out.bel
      clear FB
      go_wp2_with (first | refine wpW_build (by rfl) 38 #[] rfl [] (by first | rfl | (simp [Act.eval, Act.put]; done)) _ builtRZ ?_ | refine wpList_storeRc rfl _ _ rfl rfl (w.heap.size) (Rc.zero) rfl rfl _ K8.out ?_ | fail)
      (try simp only [Exit.inBlock, Exit.then])
      exact bodyPost_ret (resRc3 _ w.heap.size _ _ (.int .i64 0) (.int .i64 170) 2 3 4 (K8.out.row _ Rc.zero.v rfl) rfl rfl rfl _ rfl) rfl ⟨by rw [HX.out]; rfl, below_setRow g8 (Nat.le_refl _) _⟩
end Go.Proofs.YtlohfoggcdaeiaaGreat
