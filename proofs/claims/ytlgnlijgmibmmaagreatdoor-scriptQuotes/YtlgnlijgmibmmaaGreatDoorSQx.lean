/-
  ScriptQuotes: the walk.
-/
import Derived.Test.YtlgnlijgmibmmaaGreatDoorSQw
namespace Go.Proofs.YtlgnlijgmibmmaaGreatDoor
open Go.RowKit S
set_option linter.unusedVariables false
set_option linter.unusedSimpArgs false
theorem idx_dg (z : Int) (n : Nat) (hz : z = n) (hn : n < 16) (W : World) : (Instr.index 9 (.string (bs digs)) (.int .u8 z)).run Tryz.prog W = .ok (.int .u8 ((hexd n).toNat : Int)) W := by
  subst hz
  have hl : n < digs.length := hn
  have e : ((n : Int)).toNat = n := by omega
  have hs : ((n : Int)).toNat < (bs digs).size := by rw [e, bs_size]; exact hl
  rw [run_index_string W 9 (bs digs) .u8 _ Tryz.underlying9, dif_pos ⟨by omega, by rw [bs_size]; omega⟩]
  show Result.ok (Value.int .u8 (((bs digs)[((n : Int)).toNat]'hs).toNat : Int)) W = _
  rw [bs_at digs n _ rfl hs]
  rfl
theorem conv_new (w : World) (l : List UInt8) (cs : Array Value) (n cap : Nat) (hn : n = l.length) (hcs : ∀ j (hj : j < l.length), cs[j]? = some (.int .u8 ((l[j]).toNat : Int))) :
    (convert 24 9 (.slice (some ⟨w.heap.size, 0, none⟩) n cap)).run Tryz.prog ((w.alloc (.cells cs 5)).drew) = .ok (.string (bs l)) ((w.alloc (.cells cs 5)).drew) := by
  subst hn
  refine run_convert_bytes_back (P := Tryz.prog) ((w.alloc (.cells cs 5)).drew) 24 9 5 ⟨w.heap.size, 0, none⟩ cap l Tryz.underlying24 Tryz.underlying5 Tryz.underlying9 (fun j hj => ?_)
  rw [Lib.add_plain, Nat.zero_add]
  show (w.alloc (.cells cs 5)).cell? ⟨w.heap.size, j, none⟩ = _
  rw [World.cell?_alloc_new, hcs j hj]
theorem idx_bs (l : List UInt8) (k : Nat) (hk : k < l.length) (W : World) : (Instr.index 9 (.string (bs l)) (.int .i64 (k : Int))).run Tryz.prog W = .ok (.int .u8 ((l[k]).toNat : Int)) W := by
  have e : ((k : Int)).toNat = k := by omega
  have hs : ((k : Int)).toNat < (bs l).size := by rw [e, bs_size]; exact hk
  rw [run_index_string W 9 (bs l) .i64 _ Tryz.underlying9, dif_pos ⟨by omega, by rw [bs_size]; omega⟩]
  show Result.ok (Value.int .u8 (((bs l)[((k : Int)).toNat]'hs).toNat : Int)) W = _
  rw [bs_at l k _ rfl hs, List.getElem?_eq_getElem hk]
  rfl
set_option maxRecDepth 100000 in
set_option maxHeartbeats 40000000 in
theorem quotes_walk {F : Int → List UInt8} (x : ByteArray) (at0 bad : Int) (w : World) (hE : EnvW False w.heap.size F w) (hS : Sm F) (hx : x.size ≤ 140737488351232) (ha : -9223372036854775808 ≤ at0 ∧ at0 ≤ 9223372036854775807) (hb : 0 ≤ bad ∧ bad ≤ 255) :
    Calls Tryz.prog 3 #[.string x, .int .i64 at0, .int .u8 bad] w fun e w' => e = .returned (.bool true) ∧ Below w.heap.size w w' := by
  have p0 := lhead_any w hE hS (Nat.le_refl _)
  have HE := hide hE
  have HS := hide hS
  clear hE hS
  go_enter Tryz.func3, Tryz.ntmps3
  go_wp2_with fail
  refine p0.mono ?_
  rintro e w1 ⟨rfl, b1⟩
  have HB1 := hide b1
  have hs1 := b1.size
  clear p0 b1
  go_upto_if 24 with fail
  go_cut [0] (fun s0 wx => ∃ l : List UInt8, l.length ≤ 900 ∧ s0 = .string (bs l) ∧ wx = w1)
  case first =>
    as_aux_lemma =>
      by_cases hg : (900 : Int) < (x.size : Int)
      · have hd : decide ((900 : Int) < (x.size : Int)) = true := decide_eq_true hg
        have hz : (x.data.toList.take 900).length ≤ 900 := by rw [List.length_take]; omega
        have hxe : x.extract 0 900 = bs (x.data.toList.take 900) := by have h := bs_extract x.data.toList 0 900; rw [List.drop_zero] at h; exact h
        go_wp2
        go_meet
        exact ⟨_, hz, by rw [← hxe], rfl⟩
      · have hd : decide ((900 : Int) < (x.size : Int)) = false := decide_eq_false hg
        go_wp2
        go_meet
        exact ⟨x.data.toList, by have : x.size = x.data.toList.length := rfl; omega, rfl, rfl⟩
  case rest =>
  obtain ⟨l, hl, rfl, hwc⟩ := hcut
  obtain rfl := hwc.symm
  clear hx
  have hq := quote_any l w1 (by omega)
  have HE1 := hide (HE.out.below HB1.out)
  go_wp2_with fail
  refine hq.mono ?_
  rintro e w2 ⟨rfl, b2⟩
  have HB2 : Hid (Below w.heap.size w w2) := hide (HB1.out.trans (b2.mono hs1))
  have hs2 : w.heap.size ≤ w2.heap.size := by have := b2.size; omega
  clear hq b2
  go_wp2
  go_loopw [8, 9] (fun v8 v9 wr => ∃ k : Nat, k ≤ l.length ∧ v8 = .string (bs (34 :: (l.take k).flatMap hx)) ∧ v9 = .int .i64 k ∧ Below w.heap.size w wr ∧ w.heap.size ≤ wr.heap.size) (fun _ v9 _ => l.length - (Lib.intOf v9).toNat)
  case atStart => exact ⟨0, by omega, rfl, rfl, HB2.out, hs2⟩
  case round =>
    obtain ⟨k, hk, rfl, rfl, hbr, hsr⟩ := hrel
    have HBr := hide hbr
    clear hbr
    have hsz := bs_size l
    by_cases hlt : k < l.length
    · have hd : decide ((k : Int) < ((bs l).size : Int)) = true := decide_eq_true (by rw [bs_size]; omega)
      have hix := idx_bs l k hlt
      have hcr := (l[k]).toNat_lt
      generalize hcc : (l[k]).toNat = c at hix hcr
      obtain ⟨na, hna⟩ : ∃ n : Nat, (hexd (c / 16)).toNat = n := ⟨_, rfl⟩
      obtain ⟨nc, hnc⟩ : ∃ n : Nat, (hexd (c % 16)).toNat = n := ⟨_, rfl⟩
      have hdq : ∀ W, (Instr.index 9 (.string { data := #[48, 49, 50, 51, 52, 53, 54, 55, 56, 57, 97, 98, 99, 100, 101, 102] }) (.int .u8 ((c : Int) / 16))).run Tryz.prog W = .ok (.int .u8 (na : Int)) W := fun W => by rw [← hna]; exact idx_dg _ (c / 16) (by omega) (by omega) W
      have hdr : ∀ W, (Instr.index 9 (.string { data := #[48, 49, 50, 51, 52, 53, 54, 55, 56, 57, 97, 98, 99, 100, 101, 102] }) (.int .u8 ((c : Int) % 16))).run Tryz.prog W = .ok (.int .u8 (nc : Int)) W := fun W => by rw [← hnc]; exact idx_dg _ (c % 16) (by omega) (by omega) W
      have hcv : (convert 24 9 (.slice (some ⟨wr.heap.size, 0, none⟩) 2 2)).run Tryz.prog ((wr.alloc (.cells #[.int .u8 (na : Int), .int .u8 (nc : Int)] 5)).drew) = .ok (.string (bs [hexd (c / 16), hexd (c % 16)])) ((wr.alloc (.cells #[.int .u8 (na : Int), .int .u8 (nc : Int)] 5)).drew) := conv_new wr [hexd (c / 16), hexd (c % 16)] _ 2 2 rfl (fun j hj => by
        rcases (by simp at hj; omega : j = 0 ∨ j = 1) with rfl | rfl
        · rw [← hna]; rfl
        · rw [← hnc]; rfl)
      obtain ⟨PX, hPX⟩ : ∃ PX, bs (34 :: (l.take k).flatMap hx) = PX := ⟨_, rfl⟩
      rw [hPX]
      have hpz : PX.size = 1 + 4 * k := by rw [← hPX, bs_size, List.length_cons, hxs_len, List.length_take, Nat.min_eq_left hk]; omega
      have hp1 : PX.size + 2 ≤ 9223372036854775807 := by omega
      have hp2 : (PX ++ { data := #[92, 120] }).size + 2 ≤ 9223372036854775807 := by rw [ByteArray.size_append]; show PX.size + 2 + 2 ≤ _; omega
      have hp3 : (bs [hexd (c / 16), hexd (c % 16)]).size = 2 := rfl
      go_wp2_with fail
      go_region
      have hfin : PX ++ { data := #[92, 120] } ++ bs [hexd (c / 16), hexd (c % 16)] = bs (34 :: (l.take (k + 1)).flatMap hx) := by
        have e1 : l.take (k + 1) = l.take k ++ [l[k]] := by rw [List.take_add_one, List.getElem?_eq_getElem hlt]; rfl
        have e2 : hx l[k] = [92, 120] ++ [hexd (c / 16), hexd (c % 16)] := by unfold hx; rw [hcc]; rfl
        rw [← hPX, e1, List.flatMap_append, List.flatMap_singleton, e2]
        show bs _ ++ bs [92, 120] ++ bs _ = _
        rw [bs_app, bs_app]
        simp
      rw [hfin]
      have HB6 : Hid (Below w.heap.size w (wr.alloc (.cells #[.int .u8 (na : Int), .int .u8 (nc : Int)] 5)).drew) := hide ((HBr.out.alloc hsr _).drew)
      clear hfin hcv hdq hdr hix
      go_wp2
      refine ⟨⟨k + 1, by omega, rfl, by go_num, HB6.out, by show _ ≤ ((wr.alloc _).drew).heap.size; have : ((wr.alloc (.cells #[.int .u8 (na : Int), .int .u8 (nc : Int)] 5)).drew).heap.size = wr.heap.size + 1 := size_alloc _ _; omega⟩, ?_⟩
      simp [Lib.intOf]; omega
    · have hd : decide ((k : Int) < ((bs l).size : Int)) = false := decide_eq_false (by rw [bs_size]; omega)
      have hke : k = l.length := by omega
      subst hke
      have hlg : bs (34 :: (l.take l.length).flatMap hx) ++ bs [34] = bs (longB l) := by rw [bs_app, List.take_length]; rfl
      have hlb := bs_size (longB l)
      have hll := long_len l
      have hsm : (bs (34 :: (l.take l.length).flatMap hx)).size = 4 * l.length + 1 := by rw [bs_size, List.take_length, List.length_cons, hxs_len]
      generalize bs (34 :: (l.take l.length).flatMap hx) = PX at hlg hsm
      have hqs := bs_size (quoteB l)
      have hql := qf_len l
      have hq4 : (quoteB l).length ≤ 4 * l.length + 2 := by unfold quoteB; rw [List.length_append, List.length_cons]; simp only [List.length_singleton]; omega
      have hqb : (quoteB l).length ≤ 3700 := by unfold quoteB; rw [List.length_append, List.length_cons]; simp only [List.length_singleton]; omega
      have HP := hide (plain_quote l)
      go_wp2_with fail
      have hlg2 : PX ++ { data := #[34] } = bs (longB l) := hlg
      rw [hlg2]
      clear hlg hlg2 hsm
      obtain ⟨w3, hw3⟩ : ∃ x, x = wr := ⟨_, rfl⟩
      subst hw3
      go_loopw [10] (fun v10 wx => ∃ k : Nat, k ≤ (quoteB l).length ∧ v10 = .int .i64 k ∧ wx = w3) (fun v10 _ => (quoteB l).length - (Lib.intOf v10).toNat)
      case atStart => exact ⟨0, by omega, rfl, rfl⟩
      case round =>
        obtain ⟨k, hk2, rfl, hwx⟩ := hrel
        obtain rfl := hwx.symm
        by_cases hlt2 : k < (quoteB l).length
        · have hd3 : decide ((k : Int) < ((bs (quoteB l)).size : Int)) = true := decide_eq_true (by rw [bs_size]; omega)
          have hix := idx_bs (quoteB l) k hlt2
          have hpl : isPl (quoteB l)[k] = true := HP.out _ (List.getElem_mem hlt2)
          have hc1 : 32 ≤ ((quoteB l)[k]).toNat ∧ ((quoteB l)[k]).toNat ≤ 126 := by unfold isPl at hpl; simp at hpl; exact hpl
          clear hpl
          generalize hcc : ((quoteB l)[k]).toNat = c at hix hc1
          have hd4 : decide ((c : Int) < 32) = false := decide_eq_false (by omega)
          have hd5 : decide ((126 : Int) < (c : Int)) = false := decide_eq_false (by omega)
          go_wp2
          refine ⟨⟨k + 1, by omega, by go_num, trivial⟩, ?_⟩
          simp [Lib.intOf]; omega
        · have hd3 : decide ((k : Int) < ((bs (quoteB l)).size : Int)) = false := decide_eq_false (by rw [bs_size]; omega)
          have hke2 : k = (quoteB l).length := by omega
          subst hke2
          have hcat : ({ data := #[115, 116, 101, 112, 32, 53, 32, 116, 97, 107, 101, 32] } : ByteArray) ++ bs (quoteB l) = bs (pre5 ++ quoteB l) := bs_app pre5 (quoteB l)
          have hps : (12 : Nat) + (bs (quoteB l)).size ≤ 9223372036854775807 := by rw [bs_size]; omega
          have HE2 : Hid (EnvW False w.heap.size F w3) := hide (HE.out.below HBr.out)
          have p1 := parse_all (pre5 ++ quoteB l) w3 HE2.out.env hsr (by rw [List.length_append]; show 12 + _ ≤ _; omega) (.inr (textT_5 F _ (no10 HP.out)))
          rw [read_quote F HS.out.d5 l hl] at p1
          go_wp2_with fail
          refine p1.mono ?_
          rintro e w4 ⟨ad4, n4, cap4, gs4, rfl, hC4, b4⟩
          obtain ⟨k4, c4, hv4, hk4, hk4b, hx4⟩ := hC4.row (by simp)
          cases hv4
          have HX4 := hide hx4
          have HB4 : Hid (Below w.heap.size w w4) := hide (HBr.out.trans (b4.mono hsr))
          have hs4 := b4.size
          have HE4 : Hid (EnvW False w.heap.size F w4) := hide (HE.out.below HB4.out)
          clear p1 hC4 hx4 b4
          have hcat2 : ({ data := #[115, 116, 101, 112, 32, 53, 32, 116, 97, 107, 101, 32] } : ByteArray) ++ bs (longB l) = bs (pre5 ++ longB l) := bs_app pre5 (longB l)
          have hps2 : (12 : Nat) + (bs (longB l)).size ≤ 9223372036854775807 := by rw [bs_size]; omega
          have hplong : 10 ∉ longB l := by unfold longB; exact no10 (fun x hx => by
            rcases List.mem_cons.1 hx with rfl | hx
            · rfl
            · exact plain_app (plain_flat hx_plain l) (fun x hx => by rcases List.mem_singleton.1 hx with rfl; rfl) x hx)
          have p2 := parse_all (pre5 ++ longB l) w4 HE4.out.env (by omega) (by rw [List.length_append]; show 12 + _ ≤ _; omega) (.inr (textT_5 F _ hplong))
          rw [read_long F HS.out.d5 l hl] at p2
          go_wp2_with fail
          refine p2.mono ?_
          rintro e w5 ⟨ad5, n5, cap5, gs5, rfl, hC5, b5⟩
          obtain ⟨k5, c5, hv5, hk5, hk5b, hx5⟩ := hC5.row (by simp)
          cases hv5
          have HB5 : Hid (Below w.heap.size w w5) := hide (HB4.out.trans (b5.mono (by omega)))
          have hs5 := b5.size
          have HE5 : Hid (EnvW False w.heap.size F w5) := hide (HE.out.below HB5.out)
          have x1 : w5.cell? ⟨k4, 172, none⟩ = some (.string (bs l)) := by rw [b5.cell hk4b]; exact HX4.out 0 (cmd5 l, []) rfl 172 (by omega) (by omega)
          have x2 : w5.cell? ⟨k4, 134, none⟩ = some (.int .i64 5) := by rw [b5.cell hk4b]; exact HX4.out 0 (cmd5 l, []) rfl 134 (by omega) (by omega)
          have x3 : w5.cell? ⟨k5, 172, none⟩ = some (.string (bs l)) := hx5 0 (cmd5 l, []) rfl 172 (by omega) (by omega)
          have hbeq := bs_eqs l
          have hdl : decide (((bs (longB l)).size : Int) < ((bs (quoteB l)).size : Int)) = false := decide_eq_false (by rw [bs_size, bs_size]; omega)
          clear p2 hC5 hx5 b5 HX4
          by_cases hbad : (32 ≤ bad ∧ bad ≤ 126) ∨ bad = 10
          · rcases hbad with ⟨hb1, hb2⟩ | rfl
            · have hda : decide (32 ≤ bad) = true := decide_eq_true hb1
              have hdb : decide (bad ≤ 126) = true := decide_eq_true hb2
              go_wp2
              go_ret
              refine ⟨?_, HB5.out⟩
              first | (simp; done) | (kernel_rfl) | (congr 1; done)
            · go_wp2
              go_ret
              exact ⟨rfl, HB5.out⟩
          have hnb : ¬ (32 ≤ bad ∧ bad ≤ 126) ∧ bad ≠ 10 := ⟨fun h => hbad (.inl h), fun h => hbad (.inr h)⟩
          obtain ⟨cb, rfl⟩ : ∃ c : UInt8, bad = (c.toNat : Int) := ⟨UInt8.ofNat bad.toNat, by rw [UInt8.toNat_ofNat']; omega⟩
          have hcp : isPl cb = false := by
            unfold isPl
            rw [Bool.and_eq_false_iff, decide_eq_false_iff_not, decide_eq_false_iff_not]
            omega
          have hc10 : cb ≠ 10 := fun e => by rw [e] at hnb; exact hnb.2 rfl
          have HWr := hide (fun (j i : Nat) (hj : j ≤ l.length) => wrong_read F HS.out.d5 l j cb i hl hj hcp hc10)
          have hdx : (cb.toNat : Int) < 32 ∨ 126 < (cb.toNat : Int) := by omega
          have hd10 : ((cb.toNat : Int) == 10) = false := beq_eq_false_iff_ne.2 hnb.2
          clear hbad hnb hcp hc10
          generalize hcz : (cb.toNat : Int) = cz at hdx hd10 hb ⊢
          have hda : decide (32 ≤ cz) = false ∨ (decide (32 ≤ cz) = true ∧ decide (cz ≤ 126) = false) := by
            by_cases h : 32 ≤ cz
            · exact .inr ⟨decide_eq_true h, decide_eq_false (by omega)⟩
            · exact .inl (decide_eq_false h)
          go_upto_region 21 with fail
          go_cut [140] (fun s140 wx => s140 = .bool false ∧ wx = w5)
          case first =>
            as_aux_lemma =>
              rcases hda with hda | ⟨hda, hdb⟩
              · go_wp2
                go_meet
                exact ⟨rfl, rfl⟩
              · go_wp2
                go_meet
                exact ⟨rfl, rfl⟩
          case rest =>
          obtain ⟨rfl, hwc2⟩ := hcut
          obtain rfl := hwc2.symm
          have hN : ((bs (longB l)).size : Int) = 4 * l.length + 2 := by rw [bs_size, hll]; omega
          obtain ⟨R, hR⟩ : ∃ R, at0.tmod (4 * (l.length : Int) + 2) = R := ⟨_, rfl⟩
          have hR1 : R < 4 * l.length + 2 := by rw [← hR]; exact Int.tmod_lt_of_pos _ (by omega)
          have hR2 : -(4 * (l.length : Int) + 2) < R := by rw [← hR]; exact Int.lt_tmod_of_pos _ (by omega)
          have hR3 : -4000 < R ∧ R < 4000 := by omega
          have hne : ((bs (longB l)).size : Int) ≠ 0 := by omega
          go_upto_if 146 with fail
          go_cut [15] (fun s15 wx => ∃ K : Int, 0 ≤ K ∧ K < 4 * l.length + 2 ∧ s15 = .int .i64 K ∧ wx = w5)
          case first =>
            as_aux_lemma =>
              by_cases hRn : R < 0
              · have hdn : decide (R < 0) = true := decide_eq_true hRn
                go_wp2
                go_meet
                exact ⟨-R, by omega, by omega, rfl, rfl⟩
              · have hdn : decide (R < 0) = false := decide_eq_false hRn
                go_wp2
                go_meet
                exact ⟨R, by omega, by omega, rfl, rfl⟩
          case rest =>
          obtain ⟨K, hK1, hK2, rfl, hwc3⟩ := hcut
          obtain rfl := hwc3.symm
          clear hR hR1 hR2 hR3 R
          go_upto_region 26 with fail
          go_cut [156] (fun s156 wx => ∃ bb : Bool, s156 = .bool bb ∧ (bb = false → ∃ j : Nat, j ≤ l.length ∧ K = 1 + 4 * (j : Int)) ∧ wx = w5)
          case first =>
            as_aux_lemma =>
              by_cases hK0 : K = 0
              · subst hK0
                go_wp2
                go_meet
                exact ⟨true, rfl, (fun e => by cases e), rfl⟩
              · have hk0 : (K == 0) = false := beq_eq_false_iff_ne.2 hK0
                obtain ⟨R4, hR4⟩ : ∃ R4, (K - 1).tmod 4 = R4 := ⟨_, rfl⟩
                have hR4e : R4 = (K - 1) % 4 := by rw [← hR4]; exact Int.tmod_eq_emod_of_nonneg (by omega)
                have hR4b : 0 ≤ R4 ∧ R4 < 4 := by omega
                have HKB := hide (show (R4 != 0) = false → ∃ j : Nat, j ≤ l.length ∧ K = 1 + 4 * (j : Int) from fun e => ⟨((K - 1) / 4).toNat, by have := bne_eq_false_iff_eq.1 e; omega, by have := bne_eq_false_iff_eq.1 e; omega⟩)
                clear hR4e
                go_wp2
                go_meet
                exact ⟨R4 != 0, rfl, HKB.out, rfl⟩
          case rest =>
          obtain ⟨bb, rfl, HKj0, hwc5⟩ := hcut
          obtain rfl := hwc5.symm
          have HKj := hide HKj0
          clear HKj0
          go_upto_if 156 with fail
          go_cut [15] (fun s15 wx => ∃ j : Nat, j ≤ l.length ∧ s15 = .int .i64 (1 + 4 * (j : Int)) ∧ wx = w5)
          case first =>
            as_aux_lemma =>
              cases bb with
              | true =>
                go_wp2
                go_meet
                exact ⟨0, by omega, rfl, rfl⟩
              | false =>
                obtain ⟨j, hj, hKe⟩ := HKj.out rfl
                go_wp2
                go_meet
                exact ⟨j, hj, by first | rfl | rw [hKe], rfl⟩
          case rest =>
          obtain ⟨j, hj, rfl, hwc4⟩ := hcut
          obtain rfl := hwc4.symm
          clear HKj hK1 hK2
          have hkl : (1 + 4 * (j : Int)).toNat = 1 + 4 * j := by omega
          have hsz3 : ((bs (longB l)).size : Int) = 4 * l.length + 2 := hN
          have HW0 := hide (HWr.out j 0 hj)
          have HW1 := hide (HWr.out j 1 hj)
          have HW2 := hide (HWr.out j 2 hj)
          have HW3 := hide (HWr.out j 3 hj)
          obtain ⟨A, hA⟩ : ∃ A, bs (frontL l j) = A := ⟨_, rfl⟩
          obtain ⟨Z, hZ⟩ : ∃ Z, bs (backL l j) = Z := ⟨_, rfl⟩
          obtain ⟨I, hI⟩ : ∃ I, bs (34 :: l.flatMap hx) = I := ⟨_, rfl⟩
          have hsl1 : ∀ W, (Instr.slice 9 (.string (bs (longB l))) none (some (.int .i64 (1 + 4 * (j : Int)))) none).run Tryz.prog W = .ok (.string A) W := fun W => by have h := run_slice_string_h (P := Tryz.prog) (w := W) (t := 9) (s := bs (longB l)) (ht := Tryz.underlying9) .i64 (1 + 4 * (j : Int)) (by omega) (by omega); rw [hkl, long_take l j hj, hA] at h; exact h
          have hsl2 : ∀ W, (Instr.slice 9 (.string (bs (longB l))) (some (.int .i64 (1 + 4 * (j : Int)))) none none).run Tryz.prog W = .ok (.string Z) W := fun W => by have h := run_slice_string_l (P := Tryz.prog) (w := W) (t := 9) (s := bs (longB l)) (ht := Tryz.underlying9) .i64 (1 + 4 * (j : Int)) (by omega) (by omega); rw [hkl, long_drop l j hj, hZ] at h; exact h
          have hsl3 : ∀ W, (Instr.slice 9 (.string (bs (longB l))) none (some (.int .i64 (4 * (l.length : Int) + 2 - 1))) none).run Tryz.prog W = .ok (.string I) W := fun W => by have h := run_slice_string_h (P := Tryz.prog) (w := W) (t := 9) (s := bs (longB l)) (ht := Tryz.underlying9) .i64 (4 * (l.length : Int) + 2 - 1) (by omega) (by omega); rw [show (4 * (l.length : Int) + 2 - 1).toNat = 4 * l.length + 1 from (by omega), long_init, hI] at h; exact h
          have hsl4 : ∀ W, (Instr.slice 9 (.string (bs (longB l))) none (some (.int .i64 (4 * (l.length : Int) + 1))) none).run Tryz.prog W = .ok (.string I) W := fun W => by have h := run_slice_string_h (P := Tryz.prog) (w := W) (t := 9) (s := bs (longB l)) (ht := Tryz.underlying9) .i64 (4 * (l.length : Int) + 1) (by omega) (by omega); rw [show (4 * (l.length : Int) + 1).toNat = 4 * l.length + 1 from (by omega), long_init, hI] at h; exact h
          have hszA : A.size = 1 + 4 * j := by rw [← hA, bs_size, front_len l j hj]
          have hszZ : Z.size = 4 * (l.length - j) + 1 := by rw [← hZ, bs_size, back_len l j hj]
          have hcv : (convert 24 9 (.slice (some ⟨w5.heap.size, 0, none⟩) 1 1)).run Tryz.prog ((w5.alloc (.cells #[.int .u8 cz] 5)).drew) = .ok (.string (bs [cb])) ((w5.alloc (.cells #[.int .u8 cz] 5)).drew) := conv_new w5 [cb] _ 1 1 rfl (fun j hj => by
            obtain rfl : j = 0 := by simp at hj; omega
            rw [← hcz]; rfl)
          have hz1 : (bs [cb]).size = 1 := rfl
          have hq1 : A.size + (bs [cb]).size ≤ 9223372036854775807 := by omega
          have hq2 : (A ++ bs [cb]).size + Z.size ≤ 9223372036854775807 := by rw [ByteArray.size_append]; omega
          have hq3 : A.size + 2 ≤ 9223372036854775807 := by omega
          have hq4 : (A ++ { data := #[92, 113] }).size + Z.size ≤ 9223372036854775807 := by rw [ByteArray.size_append]; show A.size + 2 + _ ≤ _; omega
          have hq5 : A.size + 4 ≤ 9223372036854775807 := by omega
          have hq6 : (A ++ { data := #[92, 120, 65, 48] }).size + Z.size ≤ 9223372036854775807 := by rw [ByteArray.size_append]; show A.size + 4 + _ ≤ _; omega
          go_upto_region 28 with fail
          go_region
          have e0 : A ++ bs [cb] ++ Z = bs (wrong l j cb 0) := by rw [← hA, ← hZ, bs_app, bs_app]; rfl
          have e1 : I = bs (wrong l j cb 1) := by rw [← hI]; rfl
          have e2 : A ++ { data := #[92, 113] } ++ Z = bs (wrong l j cb 2) := by rw [← hA, ← hZ]; show bs _ ++ bs [92, 113] ++ bs _ = _; rw [bs_app, bs_app]; rfl
          have e3 : A ++ { data := #[92, 120, 65, 48] } ++ Z = bs (wrong l j cb 3) := by rw [← hA, ← hZ]; show bs _ ++ bs [92, 120, 65, 48] ++ bs _ = _; rw [bs_app, bs_app]; rfl
          rw [e0, e1, e2, e3]
          have HB6 : Hid (Below w.heap.size w (w5.alloc (.cells #[.int .u8 cz] 5)).drew) := hide ((HB5.out.alloc (by omega) _).drew)
          have hs6 : ((w5.alloc (.cells #[.int .u8 cz] 5)).drew).heap.size = w5.heap.size + 1 := size_alloc _ _
          generalize hw6 : (w5.alloc (.cells #[.int .u8 cz] 5)).drew = w6 at HB6 hs6 ⊢
          clear hsl1 hsl2 hsl3 hsl4 hcv hw6 e0 e1 e2 e3 hq1 hq2 hq3 hq4 hq5 hq6 hszA hszZ hA hZ hI
          obtain ⟨X0, hX0⟩ : ∃ x, wrong l j cb 0 = x := ⟨_, rfl⟩
          obtain ⟨X1, hX1⟩ : ∃ x, wrong l j cb 1 = x := ⟨_, rfl⟩
          obtain ⟨X2, hX2⟩ : ∃ x, wrong l j cb 2 = x := ⟨_, rfl⟩
          obtain ⟨X3, hX3⟩ : ∃ x, wrong l j cb 3 = x := ⟨_, rfl⟩
          rw [hX0] at HW0 ⊢
          rw [hX1] at HW1 ⊢
          rw [hX2] at HW2 ⊢
          rw [hX3] at HW3 ⊢
          clear hX0 hX1 hX2 hX3
          have hi0 : ∀ W, (Instr.index 41 (.agg #[.string (bs X0), .string (bs X1), .string (bs X2), .string (bs X3)]) (.int .i64 0)).run Tryz.prog W = .ok (.string (bs X0)) W := fun W => by rfl
          have hi1 : ∀ W, (Instr.index 41 (.agg #[.string (bs X0), .string (bs X1), .string (bs X2), .string (bs X3)]) (.int .i64 1)).run Tryz.prog W = .ok (.string (bs X1)) W := fun W => by rfl
          have hi2 : ∀ W, (Instr.index 41 (.agg #[.string (bs X0), .string (bs X1), .string (bs X2), .string (bs X3)]) (.int .i64 2)).run Tryz.prog W = .ok (.string (bs X2)) W := fun W => by rfl
          have hi3 : ∀ W, (Instr.index 41 (.agg #[.string (bs X0), .string (bs X1), .string (bs X2), .string (bs X3)]) (.int .i64 3)).run Tryz.prog W = .ok (.string (bs X3)) W := fun W => by rfl
          go_wp2
          go_loopw [190] (fun v wr => ∃ i : Nat, i ≤ 4 ∧ v = .int .i64 i ∧ Below w.heap.size w wr ∧ w.heap.size ≤ wr.heap.size) (fun v _ => 4 - (Lib.intOf v).toNat)
          case atStart => exact ⟨0, by omega, rfl, HB6.out, by omega⟩
          case round =>
            obtain ⟨i, hi, rfl, hbr, hsr2⟩ := hrel
            have HBr2 := hide hbr
            have HEr2 : Hid (EnvW False w.heap.size F wr) := hide (HE.out.below hbr)
            clear hbr
            rcases (by omega : i = 0 ∨ i = 1 ∨ i = 2 ∨ i = 3 ∨ i = 4) with rfl | rfl | rfl | rfl | rfl
            · obtain ⟨hp, hlen, hno⟩ := HW0.out
              have hcat3 : ({ data := #[115, 116, 101, 112, 32, 53, 32, 116, 97, 107, 101, 32] } : ByteArray) ++ bs X0 = bs (pre5 ++ X0) := bs_app pre5 X0
              have hps3 : (12 : Nat) + (bs X0).size ≤ 9223372036854775807 := by rw [bs_size]; omega
              have p9 := parse_all (pre5 ++ X0) wr HEr2.out.env hsr2 (by rw [List.length_append]; show 12 + _ ≤ _; omega) (.inr (textT_5 F _ hno))
              rw [hp] at p9
              have p9' : Calls Tryz.prog 11 #[.string (bs (pre5 ++ X0))] wr fun e w' => ∃ ad n cap, e = .returned (.tuple #[.slice ad n cap, .int .i64 250]) ∧ Below wr.heap.size wr w' := p9.mono fun e w' ⟨ad, n, cap, gs, h1, _, h3⟩ => ⟨ad, n, cap, h1, h3⟩
              clear p9 hp hno
              go_wp2_with fail
              refine p9'.mono ?_
              rintro e w7 ⟨ad7, n7, cap7, rfl, b7⟩
              have HB7 : Hid (Below w.heap.size w w7) := hide (HBr2.out.trans (b7.mono hsr2))
              have hs7 : w.heap.size ≤ w7.heap.size := by have := b7.size; omega
              clear p9' b7
              go_wp2
              refine ⟨⟨1, by omega, by go_num, HB7.out, hs7⟩, ?_⟩
              simp [Lib.intOf]
            · obtain ⟨hp, hlen, hno⟩ := HW1.out
              have hcat3 : ({ data := #[115, 116, 101, 112, 32, 53, 32, 116, 97, 107, 101, 32] } : ByteArray) ++ bs X1 = bs (pre5 ++ X1) := bs_app pre5 X1
              have hps3 : (12 : Nat) + (bs X1).size ≤ 9223372036854775807 := by rw [bs_size]; omega
              have p9 := parse_all (pre5 ++ X1) wr HEr2.out.env hsr2 (by rw [List.length_append]; show 12 + _ ≤ _; omega) (.inr (textT_5 F _ hno))
              rw [hp] at p9
              have p9' : Calls Tryz.prog 11 #[.string (bs (pre5 ++ X1))] wr fun e w' => ∃ ad n cap, e = .returned (.tuple #[.slice ad n cap, .int .i64 250]) ∧ Below wr.heap.size wr w' := p9.mono fun e w' ⟨ad, n, cap, gs, h1, _, h3⟩ => ⟨ad, n, cap, h1, h3⟩
              clear p9 hp hno
              go_wp2_with fail
              refine p9'.mono ?_
              rintro e w7 ⟨ad7, n7, cap7, rfl, b7⟩
              have HB7 : Hid (Below w.heap.size w w7) := hide (HBr2.out.trans (b7.mono hsr2))
              have hs7 : w.heap.size ≤ w7.heap.size := by have := b7.size; omega
              clear p9' b7
              go_wp2
              refine ⟨⟨2, by omega, by go_num, HB7.out, hs7⟩, ?_⟩
              simp [Lib.intOf]
            · obtain ⟨hp, hlen, hno⟩ := HW2.out
              have hcat3 : ({ data := #[115, 116, 101, 112, 32, 53, 32, 116, 97, 107, 101, 32] } : ByteArray) ++ bs X2 = bs (pre5 ++ X2) := bs_app pre5 X2
              have hps3 : (12 : Nat) + (bs X2).size ≤ 9223372036854775807 := by rw [bs_size]; omega
              have p9 := parse_all (pre5 ++ X2) wr HEr2.out.env hsr2 (by rw [List.length_append]; show 12 + _ ≤ _; omega) (.inr (textT_5 F _ hno))
              rw [hp] at p9
              have p9' : Calls Tryz.prog 11 #[.string (bs (pre5 ++ X2))] wr fun e w' => ∃ ad n cap, e = .returned (.tuple #[.slice ad n cap, .int .i64 250]) ∧ Below wr.heap.size wr w' := p9.mono fun e w' ⟨ad, n, cap, gs, h1, _, h3⟩ => ⟨ad, n, cap, h1, h3⟩
              clear p9 hp hno
              go_wp2_with fail
              refine p9'.mono ?_
              rintro e w7 ⟨ad7, n7, cap7, rfl, b7⟩
              have HB7 : Hid (Below w.heap.size w w7) := hide (HBr2.out.trans (b7.mono hsr2))
              have hs7 : w.heap.size ≤ w7.heap.size := by have := b7.size; omega
              clear p9' b7
              go_wp2
              refine ⟨⟨3, by omega, by go_num, HB7.out, hs7⟩, ?_⟩
              simp [Lib.intOf]
            · obtain ⟨hp, hlen, hno⟩ := HW3.out
              have hcat3 : ({ data := #[115, 116, 101, 112, 32, 53, 32, 116, 97, 107, 101, 32] } : ByteArray) ++ bs X3 = bs (pre5 ++ X3) := bs_app pre5 X3
              have hps3 : (12 : Nat) + (bs X3).size ≤ 9223372036854775807 := by rw [bs_size]; omega
              have p9 := parse_all (pre5 ++ X3) wr HEr2.out.env hsr2 (by rw [List.length_append]; show 12 + _ ≤ _; omega) (.inr (textT_5 F _ hno))
              rw [hp] at p9
              have p9' : Calls Tryz.prog 11 #[.string (bs (pre5 ++ X3))] wr fun e w' => ∃ ad n cap, e = .returned (.tuple #[.slice ad n cap, .int .i64 250]) ∧ Below wr.heap.size wr w' := p9.mono fun e w' ⟨ad, n, cap, gs, h1, _, h3⟩ => ⟨ad, n, cap, h1, h3⟩
              clear p9 hp hno
              go_wp2_with fail
              refine p9'.mono ?_
              rintro e w7 ⟨ad7, n7, cap7, rfl, b7⟩
              have HB7 : Hid (Below w.heap.size w w7) := hide (HBr2.out.trans (b7.mono hsr2))
              have hs7 : w.heap.size ≤ w7.heap.size := by have := b7.size; omega
              clear p9' b7
              go_wp2
              refine ⟨⟨4, by omega, by go_num, HB7.out, hs7⟩, ?_⟩
              simp [Lib.intOf]
            · go_wp2
              go_ret
              refine ⟨?_, HBr2.out⟩
              kernel_rfl
end Go.Proofs.YtlgnlijgmibmmaaGreatDoor
