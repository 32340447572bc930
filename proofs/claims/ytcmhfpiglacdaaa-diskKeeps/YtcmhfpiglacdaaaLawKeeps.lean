/-
  DiskKeeps: the walk.
-/
import Derived.Test.YtcmhfpiglacdaaaKeeps
namespace Go.Proofs.Ytcmhfpiglacdaaa
open Go.RowKit Go.Maps Go.WideMaps
set_option linter.unusedVariables false
set_option linter.unusedSimpArgs false
def named (k : Key) (o : OP) : Bool := (o.name.data.toList == k) || (o.to.data.toList == k)
theorem any_take {os : List OP} {k : Nat} {s : Key} (h : (os.take k).any (named s) = false) (hk : k < os.length) (hx : named s os[k] = false) : (os.take (k + 1)).any (named s) = false := by
  rw [take_snoc os k hk, List.any_append, h]
  simp [hx]
set_option maxRecDepth 5000 in
set_option maxHeartbeats 1000000 in
theorem wrote_any (B : Nat) (w : World) (ad : Option Addr) (cap : Nat) (os : List OP) (h : Script B w ad os) (s : ByteArray) :
    Calls Try.prog 23 #[.slice ad os.length cap, .string s] w fun e w' => e = .returned (.bool (os.any (named s.data.toList))) ∧ w' = w := by
  have HS := hide h
  have hlen := h.len
  unfold maxLen at hlen
  clear h
  go_enter Try.func23, Try.ntmps23
  go_wp2
  go_loopw [5] (fun i wr => ∃ k : Nat, k ≤ os.length ∧ i = .int .i64 (k : Int) ∧ (os.take k).any (named s.data.toList) = false ∧ wr = w) (fun i _ => os.length - (intOf i).toNat)
  case atStart => exact ⟨0, by omega, rfl, rfl, rfl⟩
  case round =>
    obtain ⟨k, hk, rfl, hno, rfl⟩ := hrel
    have HN := hide hno
    clear hno
    by_cases hlt : k < os.length
    · have dk : decide ((k : Int) < (os.length : Int)) = true := decide_eq_true (by omega)
      have hk0 : (0 : Int) ≤ (k : Int) := by omega
      have hk1 : (k : Int) < (os.length : Int) := by omega
      obtain ⟨b, o, rfl, hcs⟩ := HS.out.cells hlt
      obtain ⟨x, hx⟩ : ∃ x, os[k] = x := ⟨_, rfl⟩
      rw [hx] at hcs
      have f2 : wr.cell? ⟨b, o + k * 8 + 2, none⟩ = some (.string x.name) := hcs 2 (by omega)
      have f3 : wr.cell? ⟨b, o + k * 8 + 3, none⟩ = some (.string x.to) := hcs 3 (by omega)
      cases h1 : (x.name.data.toList == s.data.toList) with
      | true =>
        have hb1 : (x.name.toList == s.toList) = true := by rw [toList_beq]; exact h1
        have HC : Hid (os.any (named s.data.toList) = true) := List.any_eq_true.2 ⟨x, by rw [← hx]; exact List.getElem_mem hlt, by simp [named, h1]⟩
        clear h1 hcs hx
        go_wp2
        go_ret
        exact ⟨by rw [HC.out]; rfl, rfl⟩
      | false =>
        have hb1 : (x.name.toList == s.toList) = false := by rw [toList_beq]; exact h1
        cases h2 : (x.to.data.toList == s.data.toList) with
        | true =>
          have hb2 : (x.to.toList == s.toList) = true := by rw [toList_beq]; exact h2
          have HC : Hid (os.any (named s.data.toList) = true) := List.any_eq_true.2 ⟨x, by rw [← hx]; exact List.getElem_mem hlt, by simp [named, h2]⟩
          clear h1 h2 hcs hx
          go_wp2
          go_ret
          exact ⟨by rw [HC.out]; rfl, rfl⟩
        | false =>
          have hb2 : (x.to.toList == s.toList) = false := by rw [toList_beq]; exact h2
          have HC := hide (any_take HN.out hlt (by rw [hx]; simp [named, h1, h2]))
          clear h1 h2 hcs hx
          go_wp2
          go_roundw
          case rel => exact ⟨k + 1, by omega, by go_num, HC.out, by first | rfl | trivial⟩
          case measure => simp [intOf]; omega
    · have hkl : k = os.length := by omega
      subst hkl
      have dk : decide ((os.length : Int) < (os.length : Int)) = false := decide_eq_false (by omega)
      have HC := HN.out
      rw [List.take_length] at HC
      have HD := hide HC
      clear HC
      go_wp2
      go_ret
      exact ⟨by rw [HD.out]; rfl, rfl⟩
theorem size_mod (n : Int) (m : Nat) (hm : m ≤ 1048576) : ∃ M : Nat, M ≤ m ∧ wrap64 ((IntKind.u64.wrap n).tmod ((m : Int) + 1)) = (M : Int) := by
  have h0 : 0 ≤ IntKind.u64.wrap n := wrap_u64_nonneg n
  rw [Int.tmod_eq_emod_of_nonneg h0]
  have h1 : 0 ≤ IntKind.u64.wrap n % ((m : Int) + 1) := Int.emod_nonneg _ (by omega)
  have h2 : IntKind.u64.wrap n % ((m : Int) + 1) < (m : Int) + 1 := Int.emod_lt_of_pos _ (by omega)
  refine ⟨(IntKind.u64.wrap n % ((m : Int) + 1)).toNat, by omega, ?_⟩
  unfold wrap64
  omega
theorem extract_take (l : List UInt8) (M : Nat) : ((⟨l.toArray⟩ : ByteArray).extract 0 M).data.toList = l.take M := by
  rw [ByteArray.data_extract]
  simp
theorem sync_p0 {A : AD} {k : Key} {F : AF} (hp : A.pow = p0) (h : fget A.fs k = some F) : A.sync k = (0, ⟨A.cap, fset A.fs k F.sync, p0⟩) := by
  unfold AD.sync
  rw [if_neg (by rw [hp]; simp [p0]), h]
  simp only
  rw [hp, p0_count, if_neg (by simp)]
theorem trunc_p0 {A : AD} {k : Key} {F : AF} {n : Nat} (ho : A.pow.off = false) (h : fget A.fs k = some F) (hn : n ≤ F.seen.length) : A.trunc k n = (0, { A with fs := fset A.fs k (F.trunc n) }) := by
  unfold AD.trunc
  rw [if_neg (by rw [ho]; simp), h]
  simp only
  rw [if_neg (by omega)]
  rfl
set_option maxRecDepth 5000 in
set_option maxHeartbeats 1000000 in
theorem keeps_walk (w : World) (ad : Option Addr) (cap : Nat) (os : List OP) (h : Script w.heap.size w ad os) (s : ByteArray) (hs : s.size ≤ maxLen) (t : ByteArray) (ht : t.size ≤ maxLen) (ad2 : Option Addr) (cap2 : Nat) (ms : List OP) (hm : Script w.heap.size w ad2 ms)
    (ad3 : Option Addr) (cap3 : Nat) (ls : List FT) (hfa : FatesAt w ad3 ls) (hfo : ∀ x ∈ ls, x.Ok) (hfl : ls.length ≤ 9223372036854775807) (hflt : ls ≠ [] → ∀ b o, ad3 = some ⟨b, o, none⟩ → b < w.heap.size) (n : Int) (hn : -9223372036854775808 ≤ n ∧ n < 9223372036854775808) :
    Calls Try.prog 4 #[.slice ad os.length cap, .string s, .string t, .slice ad2 ms.length cap2, .slice ad3 ls.length cap3, .int .i64 n] w fun e w' => e = .returned (.bool true) ∧ Below w.heap.size w w' := by
  have hc := made_any w ad cap os h
  obtain ⟨B, hB⟩ : ∃ B, w.heap.size = B := ⟨_, rfl⟩
  obtain ⟨D, hD⟩ : ∃ D, madeD os = D := ⟨_, rfl⟩
  have HP : Hid (D.pow = p0) := by rw [← hD]; exact made_pow os
  rw [hB, hD] at hc
  rw [hB] at hm hflt
  rw [hB]
  have HBE := hide hB
  have HM := hide hm
  have HFA := hide hfa
  have HFO := hide hfo
  have HFLT := hide hflt
  have HS := hide hs
  have HT := hide ht
  clear h hB hD hm hfa hfo hflt hs ht
  go_enter Try.func4, Try.ntmps4
  go_wp2_with fail
  refine hc.mono ?_
  rintro e w1 ⟨p, rfl, h, hb⟩
  have HOK := hide (h.ok (i := 0) rfl)
  have HH := hide h
  have HB1 := hide hb
  clear h hb hc
  go_wp2_with fail
  refine (first_any w1).mono ?_
  rintro e w2 ⟨rfl, hb⟩
  have h2 := HH.out.below hb
  have HB2 := hide (HB1.out.trans (hb.mono HH.out.base))
  have hc := s_list (i := 0) h2 rfl
  clear h2 hb HH HB1
  go_wp2_with fail
  refine hc.mono ?_
  rintro e w3 ⟨v1, rfl, hr, h, hb⟩
  have HB3 := hide (HB2.out.trans hb)
  have hlm : (D.list.map encStr).length = D.list.length := List.length_map ..
  rw [hlm] at hr
  obtain ⟨ad1, cap1, e1, hr1, _, hml⟩ := row_at hr
  subst e1
  replace hc := has_any w3 ad1 cap1 D.list hr1 hml s
  have h3 : Lies B w3 [.disk p D] := h.drop
  have H3 := hide h3
  have hoff : D.pow.off = false := by rw [HP.out]; rfl
  have HO := hide hoff
  rw [list_has hoff] at hc
  clear h hb HB2 hr hr1 h3 hoff
  go_wp2_with fail
  refine hc.mono ?_
  rintro e w4 ⟨rfl, rfl⟩
  clear hc
  cases hq : fget D.fs s.data.toList with
  | none =>
    rw [Option.isSome_none]
    have hc := s_sync (i := 0) H3.out rfl s HS.out
    rw [sync_none HO.out hq] at hc
    clear hq
    go_wp2_with fail
    refine hc.mono ?_
    rintro e w5 ⟨rfl, h, hb⟩
    have HB5 := hide (HB3.out.trans hb)
    clear h hb hc
    go_wp2
    go_ret
    exact ⟨rfl, HB5.out⟩
  | some F =>
    rw [Option.isSome_some]
    have hc := s_sync (i := 0) H3.out rfl s HS.out
    rw [sync_p0 HP.out hq] at hc
    obtain ⟨D1, hD1⟩ : ∃ D1, (⟨D.cap, fset D.fs s.data.toList F.sync, p0⟩ : AD) = D1 := ⟨_, rfl⟩
    rw [hD1] at hc
    have HK1 : Hid (Kept D1 s.data.toList F.seen) := by
      show Kept _ _ _
      rw [← hD1]; exact ⟨F.sync, fget_fset_same hq, Clean.sync F⟩
    have HP1 : Hid (D1.pow = p0) := by rw [← hD1]; rfl
    clear hq hD1 H3
    go_wp2_with fail
    refine hc.mono ?_
    rintro e w5 ⟨rfl, h, hb⟩
    have HB5 := hide (HB3.out.trans hb)
    have HOK1 := hide (h.ok (i := 0) rfl)
    have hml5 : F.seen.length ≤ 1048576 := by
      obtain ⟨F1, hF1, hc1⟩ := HK1.out
      have := (HOK1.out.files _ (fget_mem hF1)).most
      rw [← hc1.seen]; exact this
    replace hc := s_dirty (i := 0) h rfl s HS.out
    rw [HK1.out.dirty] at hc
    clear h hb HB3
    go_wp2_with fail
    refine hc.mono ?_
    rintro e w6 ⟨v6, rfl, hr, h, hb⟩
    have HB6 := hide (HB5.out.trans hb)
    obtain ⟨ad6, cap6, e6, _, _, _⟩ := row_at hr
    subst e6
    have h6 : Lies B w6 [.disk p D1] := h.drop
    have H6 := hide h6
    replace hc := s_size (i := 0) h6 rfl s HS.out
    rw [HK1.out.size (by rw [HP1.out]; rfl)] at hc
    clear h h6 hb HB5 hr
    obtain ⟨l, hl⟩ : ∃ l, F.seen = l := ⟨_, rfl⟩
    rw [hl] at hc hml5 HK1
    obtain ⟨m, hmm⟩ : ∃ m, l.length = m := ⟨_, rfl⟩
    rw [hmm] at hc hml5
    have HLM := hide hmm
    clear hmm hl
    go_wp2_with fail
    refine hc.mono ?_
    rintro e w7 ⟨rfl, rfl⟩
    clear hc
    go_wp2_with fail
    obtain ⟨M, hM, heM⟩ := size_mod n m hml5
    rw [heM]
    have hoff1 : D1.pow.off = false := by rw [HP1.out]; rfl
    have HO1 := hide hoff1
    have hc := all_any (i := 0) H6.out rfl s HS.out
    rw [HK1.out.all hoff1 HOK1.out] at hc
    clear heM hoff1
    refine hc.mono ?_
    rintro e w8 ⟨rfl, h, hb⟩
    have HB8 := hide (HB6.out.trans hb)
    obtain ⟨F1, hF1, hcF1⟩ := HK1.out
    replace hc := s_trunc (i := 0) h rfl s HS.out (M : Int)
    rw [trunc_p0 HO1.out hF1 (by rw [hcF1.seen, HLM.out]; exact hM)] at hc
    have HCF1 := hide hcF1
    have HF1 := hide hF1
    have hMl : M ≤ l.length := by rw [HLM.out]; exact hM
    clear h hb HB6 H6 hF1 hcF1
    go_wp2_with fail
    obtain ⟨W, hW⟩ : ∃ W, (⟨l.toArray⟩ : ByteArray).extract 0 M = W := ⟨_, rfl⟩
    rw [hW]
    have HW : Hid (W.data.toList = l.take M) := by show _ = _; rw [← hW]; exact extract_take l M
    have HWL : Hid ((l.take M).length = M) := by show _ = _; rw [List.length_take]; omega
    clear hW hMl
    refine hc.mono ?_
    rintro e w9 ⟨rfl, h, hb⟩
    have HB9 := hide (HB8.out.trans hb)
    obtain ⟨D2, hD2⟩ : ∃ D2, ({ D1 with fs := fset D1.fs s.data.toList (F1.trunc M) } : AD) = D2 := ⟨_, rfl⟩
    rw [hD2] at h
    have HK2 : Hid (Kept D2 s.data.toList (l.take M)) := by
      show Kept _ _ _
      rw [← hD2]; exact ⟨F1.trunc M, fget_fset_same HF1.out, HCF1.out.trunc M⟩
    have HO2 : Hid (D2.pow.off = false) := by rw [← hD2]; exact HO1.out
    replace hc := s_rename (i := 0) h rfl s HS.out t HT.out
    obtain ⟨G, hG, hcG⟩ := HK2.out
    clear h hb HB8 hD2 HF1 HCF1 HK1
    cases hN : nameOk t.data.toList with
    | true =>
      have er : D2.rename s.data.toList t.data.toList = (0, { D2 with fs := fput (fdel D2.fs s.data.toList) t.data.toList G }) := by
        unfold AD.rename
        rw [if_neg (by rw [HO2.out]; simp), hG]
        simp only
        rw [if_neg (by rw [hN]; simp)]
      rw [er] at hc
      obtain ⟨D3, hD3⟩ : ∃ D3, ({ D2 with fs := fput (fdel D2.fs s.data.toList) t.data.toList G } : AD) = D3 := ⟨_, rfl⟩
      rw [hD3] at hc
      have hX : t.size ≤ maxLen := by exact HT.out
      have hK3 : Kept D3 t.data.toList (l.take M) := by rw [← hD3]; exact ⟨G, fget_fput_same, hcG⟩
      have hG3 : t = s ∨ Gone D3 s.data.toList := by
        by_cases e : t = s
        · exact .inl e
        · refine .inr ?_
          rw [← hD3]
          show fget (fput (fdel D2.fs s.data.toList) t.data.toList G) s.data.toList = none
          rw [fget_fput_ne (fun x => e ((bytes_ext x).symm)), fget_fdel_same]
      clear er hD3 hG hcG hN
      have HX := hide hX
      have HK3 := hide hK3
      have HG3 := hide hG3
      clear hX hK3 hG3
      go_wp2_with fail
      refine hc.mono ?_
      rintro e w10 ⟨rfl, h, hb⟩
      have HB10 := hide (HB9.out.trans hb)
      have H10 := hide h
      clear h hb HB9 hc
      go_wp2
      go_loopw [18] (fun i wr => ∃ (k : Nat) (A : AD), k ≤ ms.length ∧ i = .int .i64 (k : Int) ∧ Lies B wr [.disk p A] ∧ Kept A t.data.toList (l.take M) ∧ (t = s ∨ (ms.take k).any (named s.data.toList) = true ∨ Gone A s.data.toList) ∧ Below B w wr) (fun i _ => ms.length - (intOf i).toNat)
      case atStart => exact ⟨0, D3, by omega, rfl, H10.out, HK3.out, HG3.out.imp id .inr, HB10.out⟩
      case round =>
        clear H10 HB10 HK3 HG3
        obtain ⟨k, A, hk, rfl, hlr, hkp, hgn, hbr⟩ := hrel
        have hmlen := HM.out.len
        unfold maxLen at hmlen
        by_cases hlt : k < ms.length
        · have dk : decide ((k : Int) < (ms.length : Int)) = true := decide_eq_true (by omega)
          have hk0 : (0 : Int) ≤ (k : Int) := by omega
          have hk1 : (k : Int) < (ms.length : Int) := by omega
          have hsr := HM.out.below hbr
          obtain ⟨b, o, rfl, hcs⟩ := hsr.cells hlt
          obtain ⟨x, hx⟩ : ∃ x, ms[k] = x := ⟨_, rfl⟩
          rw [hx] at hcs
          have hxm : x ∈ ms := by rw [← hx]; exact List.getElem_mem hlt
          have HTK : Hid ((ms.take (k + 1)).any (named s.data.toList) = ((ms.take k).any (named s.data.toList) || named s.data.toList x)) := by
            show _ = _
            rw [take_snoc ms k hlt, List.any_append, hx]
            simp
          have f0 : wr.cell? ⟨b, o + k * 8, none⟩ = some (.int .i64 x.kind) := hcs 0 (by omega)
          have f1 : wr.cell? ⟨b, o + k * 8 + 1, none⟩ = some (.bool x.two) := hcs 1 (by omega)
          have f2 : wr.cell? ⟨b, o + k * 8 + 2, none⟩ = some (.string x.name) := hcs 2 (by omega)
          have f3 : wr.cell? ⟨b, o + k * 8 + 3, none⟩ = some (.string x.to) := hcs 3 (by omega)
          have f4 : wr.cell? ⟨b, o + k * 8 + 4, none⟩ = some (.int .i64 x.at_) := hcs 4 (by omega)
          have f5 : wr.cell? ⟨b, o + k * 8 + 5, none⟩ = some (.int .i64 x.n) := hcs 5 (by omega)
          have f6 : wr.cell? ⟨b, o + k * 8 + 6, none⟩ = some (.string x.text) := hcs 6 (by omega)
          have f7 : wr.cell? ⟨b, o + k * 8 + 7, none⟩ = some (.slice x.ad x.fates.length x.cap) := hcs 7 (by omega)
          obtain ⟨w11, hw11⟩ : ∃ w11, wr.alloc (.cells #[.int .i64 x.kind, .bool x.two, .string x.name, .string x.to, .int .i64 x.at_, .int .i64 x.n, .string x.text, .slice x.ad x.fates.length x.cap] 44) = w11 := ⟨_, rfl⟩
          have hb11 : Below wr.heap.size wr w11 := by rw [← hw11]; exact (Below.refl _ _).alloc (Nat.le_refl _) _
          have hB11 := hb11.mono hlr.base
          have h11 := hlr.below hb11
          have hl11 := (hsr.lie x hxm).below hB11
          obtain ⟨g, hg⟩ : ∃ g, wr.heap.size = g := ⟨_, rfl⟩
          have hcell : ∀ j, w11.cell? ⟨g, j, none⟩ = x.cs[j]? := fun j => by rw [← hw11, ← hg, cell_of_row _ wr.heap.size j _ _ (0, 0) (heap_alloc_new wr _)]; rfl
          have f10 : w11.cell? ⟨g, 0, none⟩ = some (.int .i64 x.kind) := hcell 0
          have f11 : w11.cell? ⟨g, 1, none⟩ = some (.bool x.two) := hcell 1
          have f12 : w11.cell? ⟨g, 2, none⟩ = some (.string x.name) := hcell 2
          have f13 : w11.cell? ⟨g, 3, none⟩ = some (.string x.to) := hcell 3
          have f14 : w11.cell? ⟨g, 4, none⟩ = some (.int .i64 x.at_) := hcell 4
          have f15 : w11.cell? ⟨g, 5, none⟩ = some (.int .i64 x.n) := hcell 5
          have f16 : w11.cell? ⟨g, 6, none⟩ = some (.string x.text) := hcell 6
          have f17 : w11.cell? ⟨g, 7, none⟩ = some (.slice x.ad x.fates.length x.cap) := hcell 7
          have HB11 := hide (hbr.trans hB11)
          have H11 := hide h11
          have HKP := hide hkp
          have HGN := hide hgn
          cases hnm : named t.data.toList x with
          | false =>
            simp only [named, Bool.or_eq_false_iff] at hnm
            obtain ⟨hn1, hn2⟩ := hnm
            have hb1 : (x.name.toList == t.toList) = false := by rw [toList_beq]; exact hn1
            have hb2 : (x.to.toList == t.toList) = false := by rw [toList_beq]; exact hn2
            have hsg := fun q h1 h2 => step_get A x q h1 h2
            have HK4 := hide (hkp.of (A' := (A.step x).2) (hsg _ (beq_eq_false_iff_ne.1 hn1) (beq_eq_false_iff_ne.1 hn2)))
            have HG4 : Hid (t = s ∨ (ms.take (k + 1)).any (named s.data.toList) = true ∨ Gone (A.step x).2 s.data.toList) := by
              show _ ∨ _
              rw [HTK.out]
              rcases hgn with h1 | h1 | h1
              · exact .inl h1
              · exact .inr (.inl (by rw [h1]; rfl))
              · cases hns : named s.data.toList x with
                | true => exact .inr (.inl (by simp))
                | false =>
                  simp only [named, Bool.or_eq_false_iff] at hns
                  exact .inr (.inr (h1.of (hsg _ (beq_eq_false_iff_ne.1 hns.1) (beq_eq_false_iff_ne.1 hns.2))))
            have hcall := step_any (i := 0) h11 rfl x (hsr.ok x hxm) hl11
            unfold OP.cs at hcall
            clear hcs hsr hlr hbr hx hxm hcell hb11 hB11 h11 hl11 hkp hgn hn1 hn2 hsg
            go_wp2_with fail
            refine hcall.mono ?_
            rintro e w12 ⟨rfl, h12, hb12⟩
            have HB12 := hide (HB11.out.trans hb12)
            replace hcall := s_read (i := 0) h12 rfl t HX.out (k : Int) 9
            clear f0 f1 f2 f3 f4 f5 f6 f7 f10 f11 f12 f13 f14 f15 f16 f17 hw11 h12 hb12 HB11 H11
            go_wp2_with fail
            refine hcall.mono ?_
            rintro e w13 ⟨rfl, h13, hb13⟩
            have HB13 := hide (HB12.out.trans hb13)
            have H13 := hide h13
            clear hcall h13 hb13 HB12
            go_wp2
            go_roundw
            case rel => exact ⟨k + 1, (A.step x).2, by omega, by go_num, H13.out, HK4.out, HG4.out, HB13.out⟩
            case measure => simp [intOf]; omega
          | true =>
            have HG4 : Hid (t = s ∨ (ms.take (k + 1)).any (named s.data.toList) = true ∨ Gone A s.data.toList) := by
              show _ ∨ _
              rw [HTK.out]
              rcases hgn with h1 | h1 | h1
              · exact .inl h1
              · exact .inr (.inl (by rw [h1]; rfl))
              · exact .inr (.inr h1)
            have hcall := s_read (i := 0) h11 rfl t HX.out (k : Int) 9
            have hbb : (x.name.toList == t.toList) = true ∨ ((x.name.toList == t.toList) = false ∧ (x.to.toList == t.toList) = true) := by
              rw [toList_beq, toList_beq]
              simp only [named, Bool.or_eq_true] at hnm
              cases h1 : (x.name.data.toList == t.data.toList) with
              | true => exact .inl rfl
              | false => rw [h1] at hnm; exact .inr ⟨rfl, hnm.resolve_left (by simp)⟩
            clear hcs hsr hlr hbr hx hxm hcell hb11 hB11 h11 hl11 hkp hgn hnm
            rcases hbb with hb1 | ⟨hb1, hb2⟩
            · go_wp2_with fail
              refine hcall.mono ?_
              rintro e w13 ⟨rfl, h13, hb13⟩
              have HB13 := hide (HB11.out.trans hb13)
              have H13 := hide h13
              clear hcall h13 hb13 HB11 H11 f0 f1 f2 f3 f4 f5 f6 f7 f10 f11 f12 f13 f14 f15 f16 f17 hw11
              go_wp2
              go_roundw
              case rel => exact ⟨k + 1, A, by omega, by go_num, H13.out, HKP.out, HG4.out, HB13.out⟩
              case measure => simp [intOf]; omega
            · go_wp2_with fail
              refine hcall.mono ?_
              rintro e w13 ⟨rfl, h13, hb13⟩
              have HB13 := hide (HB11.out.trans hb13)
              have H13 := hide h13
              clear hcall h13 hb13 HB11 H11 f0 f1 f2 f3 f4 f5 f6 f7 f10 f11 f12 f13 f14 f15 f16 f17 hw11
              go_wp2
              go_roundw
              case rel => exact ⟨k + 1, A, by omega, by go_num, H13.out, HKP.out, HG4.out, HB13.out⟩
              case measure => simp [intOf]; omega
        · have hkl : k = ms.length := by omega
          subst hkl
          have dk : decide ((ms.length : Int) < (ms.length : Int)) = false := decide_eq_false (by omega)
          rw [List.take_length] at hgn
          have hcall := s_on (i := 0) hlr rfl
          have HBR := hide hbr
          have HKP := hide (hkp.of (on_get A _))
          have HGN : Hid (t = s ∨ ms.any (named s.data.toList) = true ∨ Gone A.on s.data.toList) := by
            rcases hgn with h1 | h1 | h1
            · exact .inl h1
            · exact .inr (.inl h1)
            · exact .inr (.inr (h1.of (on_get A _)))
          obtain ⟨A1, hA1⟩ : ∃ A1, A.on = A1 := ⟨_, rfl⟩
          have HA1 : Hid (A1.pow.off = false) := by rw [← hA1]; rfl
          rw [hA1] at hcall HKP HGN
          clear hlr hbr hkp hgn hA1
          go_wp2_with fail
          refine hcall.mono ?_
          rintro e w11 ⟨rfl, h11, hb11⟩
          have HB11 := hide (HBR.out.trans hb11)
          have HOKA := hide (h11.ok (i := 0) rfl)
          replace hcall := all_any (i := 0) h11 rfl t HX.out
          rw [HKP.out.all HA1.out HOKA.out] at hcall
          clear h11 hb11 HBR
          go_wp2_with fail
          refine hcall.mono ?_
          rintro e w12 ⟨rfl, h12, hb12⟩
          have HB12 := hide (HB11.out.trans hb12)
          have dw : (l.take M == W.toList) = true := by rw [ByteArray.toList_eq, HW.out]; simp
          replace hcall := s_dirty (i := 0) h12 rfl t HX.out
          rw [HKP.out.dirty] at hcall
          clear h12 hb12 HB11
          go_wp2_with fail
          refine hcall.mono ?_
          rintro e w13 ⟨v13, rfl, hr13, h13, hb13⟩
          have HB13 := hide (HB12.out.trans hb13)
          obtain ⟨ad13, cap13, e13, _, _, _⟩ := row_at hr13
          subst e13
          have h13' : Lies B w13 [.disk p A1] := h13.drop
          replace hcall := s_crash (i := 0) h13' rfl ad3 ls cap3 (HFA.out.later HB13.out HFLT.out) HFO.out hfl HFLT.out
          clear h13 h13' hb13 HB12 hr13
          obtain ⟨A2, hA2⟩ : ∃ A2, A1.crash (ls.map FT.abs) = A2 := ⟨_, rfl⟩
          have HK2' : Hid (Kept A2 t.data.toList (l.take M)) := by show Kept _ _ _; rw [← hA2]; exact HKP.out.of (crash_get A1 _ _)
          have HG2' : Hid (t = s ∨ ms.any (named s.data.toList) = true ∨ Gone A2 s.data.toList) := by
            rw [← hA2]
            rcases HGN.out with h1 | h1 | h1
            · exact .inl h1
            · exact .inr (.inl h1)
            · exact .inr (.inr (h1.of (crash_get A1 _ _)))
          have HA2 : Hid (A2.pow.off = true) := by
            show _ = _
            rw [← hA2]; unfold AD.crash; rw [if_neg (by rw [HA1.out]; simp)]
          rw [hA2] at hcall
          clear hA2 HKP HGN
          go_wp2_with fail
          refine hcall.mono ?_
          rintro e w14 ⟨rfl, h14, hb14⟩
          have HB14 := hide (HB13.out.trans hb14)
          have H14 := hide h14
          replace hcall := s_size (i := 0) h14 rfl t HX.out
          have es : A2.size t.data.toList = (0, 9) := by unfold AD.size; rw [if_pos HA2.out]
          rw [es] at hcall
          clear h14 hb14 HB13 es
          go_wp2_with fail
          refine hcall.mono ?_
          rintro e w15 ⟨rfl, rfl⟩
          replace hcall := s_on (i := 0) H14.out rfl
          obtain ⟨A3, hA3⟩ : ∃ A3, A2.on = A3 := ⟨_, rfl⟩
          have HK3' : Hid (Kept A3 t.data.toList (l.take M)) := by show Kept _ _ _; rw [← hA3]; exact HK2'.out.of (on_get A2 _)
          have HG3' : Hid (t = s ∨ ms.any (named s.data.toList) = true ∨ Gone A3 s.data.toList) := by
            rw [← hA3]
            rcases HG2'.out with h1 | h1 | h1
            · exact .inl h1
            · exact .inr (.inl h1)
            · exact .inr (.inr (h1.of (on_get A2 _)))
          have HA3 : Hid (A3.pow.off = false) := by rw [← hA3]; rfl
          rw [hA3] at hcall
          clear hA3 HK2' HG2' H14
          go_wp2_with fail
          refine hcall.mono ?_
          rintro e w16 ⟨rfl, h16, hb16⟩
          have HB16 := hide (HB14.out.trans hb16)
          have HOK3 := hide (h16.ok (i := 0) rfl)
          have H16 := hide h16
          replace hcall := s_size (i := 0) h16 rfl t HX.out
          rw [HK3'.out.size HA3.out, HWL.out] at hcall
          clear h16 hb16 HB14
          go_wp2_with fail
          refine hcall.mono ?_
          rintro e w17 ⟨rfl, rfl⟩
          replace hcall := all_any (i := 0) H16.out rfl t HX.out
          rw [HK3'.out.all HA3.out HOK3.out] at hcall
          clear H16
          go_wp2_with fail
          refine hcall.mono ?_
          rintro e w18 ⟨rfl, h18, hb18⟩
          have HB18 := hide (HB16.out.trans hb18)
          replace hcall := s_list (i := 0) h18 rfl
          clear h18 hb18 HB16
          go_wp2_with fail
          refine hcall.mono ?_
          rintro e w19 ⟨v19, rfl, hr19, h19, hb19⟩
          have HB19 := hide (HB18.out.trans hb19)
          have hlm3 : (A3.list.map encStr).length = A3.list.length := List.length_map ..
          rw [hlm3] at hr19
          obtain ⟨ad19, cap19, e19, hrr, _, hml19⟩ := row_at hr19
          subst e19
          have h19' : Lies B w19 [.disk p A3] := h19.drop
          have H19 := hide h19'
          replace hcall := has_any w19 ad19 cap19 A3.list hrr hml19 t
          rw [HK3'.out.list HA3.out] at hcall
          clear h19 h19' hb19 HB18 hr19 hrr
          go_wp2_with fail
          refine hcall.mono ?_
          rintro e w20 ⟨rfl, rfl⟩
          by_cases hXs : t = s
          · have dx : (t.toList == s.toList) = true := by rw [hXs]; simp
            clear hcall hXs
            go_wp2
            go_ret
            exact ⟨rfl, HB19.out⟩
          · have dx : (t.toList == s.toList) = false := by
              rw [toList_beq, beq_eq_false_iff_ne]
              exact fun e => hXs (bytes_ext e)
            have hG4 := HG3'.out.resolve_left hXs
            have HG4 := hide hG4
            replace hcall := s_list (i := 0) H19.out rfl
            clear hXs hG4
            go_wp2_with fail
            refine hcall.mono ?_
            rintro e w21 ⟨v21, rfl, hr21, h21, hb21⟩
            have HB21 := hide (HB19.out.trans hb21)
            rw [hlm3] at hr21
            obtain ⟨ad21, cap21, e21, hrr, _, hml21⟩ := row_at hr21
            subst e21
            replace hcall := has_any w21 ad21 cap21 A3.list hrr hml21 s
            rw [list_has HA3.out] at hcall
            clear h21 hb21 HB19 hr21 hrr
            go_wp2_with fail
            refine hcall.mono ?_
            rintro e w22 ⟨rfl, rfl⟩
            clear hcall
            cases hq : fget A3.fs s.data.toList with
            | none =>
              rw [Option.isSome_none]
              clear hq
              go_wp2
              go_ret
              exact ⟨rfl, HB21.out⟩
            | some G3 =>
              rw [Option.isSome_some]
              have hwr : ms.any (named s.data.toList) = true := HG4.out.resolve_right (fun x => by rw [Gone, hq] at x; cases x)
              have hcall := wrote_any B w22 ad2 cap2 ms (HM.out.below HB21.out) s
              rw [hwr] at hcall
              clear hq hwr
              go_wp2_with fail
              refine hcall.mono ?_
              rintro e w23 ⟨rfl, rfl⟩
              clear hcall
              go_wp2
              go_ret
              exact ⟨rfl, HB21.out⟩
    | false =>
      have er : D2.rename s.data.toList t.data.toList = (1, D2) := by
        unfold AD.rename
        rw [if_neg (by rw [HO2.out]; simp), hG]
        simp only
        rw [if_pos hN]
      rw [er] at hc
      obtain ⟨D3, hD3⟩ : ∃ D3, D2 = D3 := ⟨_, rfl⟩
      have hX : s.size ≤ maxLen := by exact HS.out
      have hK3 : Kept D3 s.data.toList (l.take M) := by rw [← hD3]; exact ⟨G, hG, hcG⟩
      have hG3 : s = s ∨ Gone D3 s.data.toList := .inl rfl
      rw [hD3] at hc
      clear er hG hcG hN
      have HX := hide hX
      have HK3 := hide hK3
      have HG3 := hide hG3
      clear hX hK3 hG3
      go_wp2_with fail
      refine hc.mono ?_
      rintro e w10 ⟨rfl, h, hb⟩
      have HB10 := hide (HB9.out.trans hb)
      have H10 := hide h
      clear h hb HB9 hc
      go_wp2
      go_loopw [18] (fun i wr => ∃ (k : Nat) (A : AD), k ≤ ms.length ∧ i = .int .i64 (k : Int) ∧ Lies B wr [.disk p A] ∧ Kept A s.data.toList (l.take M) ∧ (s = s ∨ (ms.take k).any (named s.data.toList) = true ∨ Gone A s.data.toList) ∧ Below B w wr) (fun i _ => ms.length - (intOf i).toNat)
      case atStart => exact ⟨0, D3, by omega, rfl, H10.out, HK3.out, .inl rfl, HB10.out⟩
      case round =>
        clear H10 HB10 HK3 HG3
        obtain ⟨k, A, hk, rfl, hlr, hkp, hgn, hbr⟩ := hrel
        have hmlen := HM.out.len
        unfold maxLen at hmlen
        by_cases hlt : k < ms.length
        · have dk : decide ((k : Int) < (ms.length : Int)) = true := decide_eq_true (by omega)
          have hk0 : (0 : Int) ≤ (k : Int) := by omega
          have hk1 : (k : Int) < (ms.length : Int) := by omega
          have hsr := HM.out.below hbr
          obtain ⟨b, o, rfl, hcs⟩ := hsr.cells hlt
          obtain ⟨x, hx⟩ : ∃ x, ms[k] = x := ⟨_, rfl⟩
          rw [hx] at hcs
          have hxm : x ∈ ms := by rw [← hx]; exact List.getElem_mem hlt
          have HTK : Hid ((ms.take (k + 1)).any (named s.data.toList) = ((ms.take k).any (named s.data.toList) || named s.data.toList x)) := by
            show _ = _
            rw [take_snoc ms k hlt, List.any_append, hx]
            simp
          have f0 : wr.cell? ⟨b, o + k * 8, none⟩ = some (.int .i64 x.kind) := hcs 0 (by omega)
          have f1 : wr.cell? ⟨b, o + k * 8 + 1, none⟩ = some (.bool x.two) := hcs 1 (by omega)
          have f2 : wr.cell? ⟨b, o + k * 8 + 2, none⟩ = some (.string x.name) := hcs 2 (by omega)
          have f3 : wr.cell? ⟨b, o + k * 8 + 3, none⟩ = some (.string x.to) := hcs 3 (by omega)
          have f4 : wr.cell? ⟨b, o + k * 8 + 4, none⟩ = some (.int .i64 x.at_) := hcs 4 (by omega)
          have f5 : wr.cell? ⟨b, o + k * 8 + 5, none⟩ = some (.int .i64 x.n) := hcs 5 (by omega)
          have f6 : wr.cell? ⟨b, o + k * 8 + 6, none⟩ = some (.string x.text) := hcs 6 (by omega)
          have f7 : wr.cell? ⟨b, o + k * 8 + 7, none⟩ = some (.slice x.ad x.fates.length x.cap) := hcs 7 (by omega)
          obtain ⟨w11, hw11⟩ : ∃ w11, wr.alloc (.cells #[.int .i64 x.kind, .bool x.two, .string x.name, .string x.to, .int .i64 x.at_, .int .i64 x.n, .string x.text, .slice x.ad x.fates.length x.cap] 44) = w11 := ⟨_, rfl⟩
          have hb11 : Below wr.heap.size wr w11 := by rw [← hw11]; exact (Below.refl _ _).alloc (Nat.le_refl _) _
          have hB11 := hb11.mono hlr.base
          have h11 := hlr.below hb11
          have hl11 := (hsr.lie x hxm).below hB11
          obtain ⟨g, hg⟩ : ∃ g, wr.heap.size = g := ⟨_, rfl⟩
          have hcell : ∀ j, w11.cell? ⟨g, j, none⟩ = x.cs[j]? := fun j => by rw [← hw11, ← hg, cell_of_row _ wr.heap.size j _ _ (0, 0) (heap_alloc_new wr _)]; rfl
          have f10 : w11.cell? ⟨g, 0, none⟩ = some (.int .i64 x.kind) := hcell 0
          have f11 : w11.cell? ⟨g, 1, none⟩ = some (.bool x.two) := hcell 1
          have f12 : w11.cell? ⟨g, 2, none⟩ = some (.string x.name) := hcell 2
          have f13 : w11.cell? ⟨g, 3, none⟩ = some (.string x.to) := hcell 3
          have f14 : w11.cell? ⟨g, 4, none⟩ = some (.int .i64 x.at_) := hcell 4
          have f15 : w11.cell? ⟨g, 5, none⟩ = some (.int .i64 x.n) := hcell 5
          have f16 : w11.cell? ⟨g, 6, none⟩ = some (.string x.text) := hcell 6
          have f17 : w11.cell? ⟨g, 7, none⟩ = some (.slice x.ad x.fates.length x.cap) := hcell 7
          have HB11 := hide (hbr.trans hB11)
          have H11 := hide h11
          have HKP := hide hkp
          have HGN := hide hgn
          cases hnm : named s.data.toList x with
          | false =>
            simp only [named, Bool.or_eq_false_iff] at hnm
            obtain ⟨hn1, hn2⟩ := hnm
            have hb1 : (x.name.toList == s.toList) = false := by rw [toList_beq]; exact hn1
            have hb2 : (x.to.toList == s.toList) = false := by rw [toList_beq]; exact hn2
            have hsg := fun q h1 h2 => step_get A x q h1 h2
            have HK4 := hide (hkp.of (A' := (A.step x).2) (hsg _ (beq_eq_false_iff_ne.1 hn1) (beq_eq_false_iff_ne.1 hn2)))
            have HG4 : Hid (s = s ∨ (ms.take (k + 1)).any (named s.data.toList) = true ∨ Gone (A.step x).2 s.data.toList) := by
              show _ ∨ _
              rw [HTK.out]
              rcases hgn with h1 | h1 | h1
              · exact .inl rfl
              · exact .inr (.inl (by rw [h1]; rfl))
              · cases hns : named s.data.toList x with
                | true => exact .inr (.inl (by simp))
                | false =>
                  simp only [named, Bool.or_eq_false_iff] at hns
                  exact .inr (.inr (h1.of (hsg _ (beq_eq_false_iff_ne.1 hns.1) (beq_eq_false_iff_ne.1 hns.2))))
            have hcall := step_any (i := 0) h11 rfl x (hsr.ok x hxm) hl11
            unfold OP.cs at hcall
            clear hcs hsr hlr hbr hx hxm hcell hb11 hB11 h11 hl11 hkp hgn hn1 hn2 hsg
            go_wp2_with fail
            refine hcall.mono ?_
            rintro e w12 ⟨rfl, h12, hb12⟩
            have HB12 := hide (HB11.out.trans hb12)
            replace hcall := s_read (i := 0) h12 rfl s HX.out (k : Int) 9
            clear f0 f1 f2 f3 f4 f5 f6 f7 f10 f11 f12 f13 f14 f15 f16 f17 hw11 h12 hb12 HB11 H11
            go_wp2_with fail
            refine hcall.mono ?_
            rintro e w13 ⟨rfl, h13, hb13⟩
            have HB13 := hide (HB12.out.trans hb13)
            have H13 := hide h13
            clear hcall h13 hb13 HB12
            go_wp2
            go_roundw
            case rel => exact ⟨k + 1, (A.step x).2, by omega, by go_num, H13.out, HK4.out, HG4.out, HB13.out⟩
            case measure => simp [intOf]; omega
          | true =>
            have HG4 : Hid (s = s ∨ (ms.take (k + 1)).any (named s.data.toList) = true ∨ Gone A s.data.toList) := by
              show _ ∨ _
              rw [HTK.out]
              rcases hgn with h1 | h1 | h1
              · exact .inl rfl
              · exact .inr (.inl (by rw [h1]; rfl))
              · exact .inr (.inr h1)
            have hcall := s_read (i := 0) h11 rfl s HX.out (k : Int) 9
            have hbb : (x.name.toList == s.toList) = true ∨ ((x.name.toList == s.toList) = false ∧ (x.to.toList == s.toList) = true) := by
              rw [toList_beq, toList_beq]
              simp only [named, Bool.or_eq_true] at hnm
              cases h1 : (x.name.data.toList == s.data.toList) with
              | true => exact .inl rfl
              | false => rw [h1] at hnm; exact .inr ⟨rfl, hnm.resolve_left (by simp)⟩
            clear hcs hsr hlr hbr hx hxm hcell hb11 hB11 h11 hl11 hkp hgn hnm
            rcases hbb with hb1 | ⟨hb1, hb2⟩
            · go_wp2_with fail
              refine hcall.mono ?_
              rintro e w13 ⟨rfl, h13, hb13⟩
              have HB13 := hide (HB11.out.trans hb13)
              have H13 := hide h13
              clear hcall h13 hb13 HB11 H11 f0 f1 f2 f3 f4 f5 f6 f7 f10 f11 f12 f13 f14 f15 f16 f17 hw11
              go_wp2
              go_roundw
              case rel => exact ⟨k + 1, A, by omega, by go_num, H13.out, HKP.out, HG4.out, HB13.out⟩
              case measure => simp [intOf]; omega
            · go_wp2_with fail
              refine hcall.mono ?_
              rintro e w13 ⟨rfl, h13, hb13⟩
              have HB13 := hide (HB11.out.trans hb13)
              have H13 := hide h13
              clear hcall h13 hb13 HB11 H11 f0 f1 f2 f3 f4 f5 f6 f7 f10 f11 f12 f13 f14 f15 f16 f17 hw11
              go_wp2
              go_roundw
              case rel => exact ⟨k + 1, A, by omega, by go_num, H13.out, HKP.out, HG4.out, HB13.out⟩
              case measure => simp [intOf]; omega
        · have hkl : k = ms.length := by omega
          subst hkl
          have dk : decide ((ms.length : Int) < (ms.length : Int)) = false := decide_eq_false (by omega)
          rw [List.take_length] at hgn
          have hcall := s_on (i := 0) hlr rfl
          have HBR := hide hbr
          have HKP := hide (hkp.of (on_get A _))
          have HGN : Hid (s = s ∨ ms.any (named s.data.toList) = true ∨ Gone A.on s.data.toList) := by
            rcases hgn with h1 | h1 | h1
            · exact .inl rfl
            · exact .inr (.inl h1)
            · exact .inr (.inr (h1.of (on_get A _)))
          obtain ⟨A1, hA1⟩ : ∃ A1, A.on = A1 := ⟨_, rfl⟩
          have HA1 : Hid (A1.pow.off = false) := by rw [← hA1]; rfl
          rw [hA1] at hcall HKP HGN
          clear hlr hbr hkp hgn hA1
          go_wp2_with fail
          refine hcall.mono ?_
          rintro e w11 ⟨rfl, h11, hb11⟩
          have HB11 := hide (HBR.out.trans hb11)
          have HOKA := hide (h11.ok (i := 0) rfl)
          replace hcall := all_any (i := 0) h11 rfl s HX.out
          rw [HKP.out.all HA1.out HOKA.out] at hcall
          clear h11 hb11 HBR
          go_wp2_with fail
          refine hcall.mono ?_
          rintro e w12 ⟨rfl, h12, hb12⟩
          have HB12 := hide (HB11.out.trans hb12)
          have dw : (l.take M == W.toList) = true := by rw [ByteArray.toList_eq, HW.out]; simp
          replace hcall := s_dirty (i := 0) h12 rfl s HX.out
          rw [HKP.out.dirty] at hcall
          clear h12 hb12 HB11
          go_wp2_with fail
          refine hcall.mono ?_
          rintro e w13 ⟨v13, rfl, hr13, h13, hb13⟩
          have HB13 := hide (HB12.out.trans hb13)
          obtain ⟨ad13, cap13, e13, _, _, _⟩ := row_at hr13
          subst e13
          have h13' : Lies B w13 [.disk p A1] := h13.drop
          replace hcall := s_crash (i := 0) h13' rfl ad3 ls cap3 (HFA.out.later HB13.out HFLT.out) HFO.out hfl HFLT.out
          clear h13 h13' hb13 HB12 hr13
          obtain ⟨A2, hA2⟩ : ∃ A2, A1.crash (ls.map FT.abs) = A2 := ⟨_, rfl⟩
          have HK2' : Hid (Kept A2 s.data.toList (l.take M)) := by show Kept _ _ _; rw [← hA2]; exact HKP.out.of (crash_get A1 _ _)
          have HG2' : Hid (s = s ∨ ms.any (named s.data.toList) = true ∨ Gone A2 s.data.toList) := by
            rw [← hA2]
            rcases HGN.out with h1 | h1 | h1
            · exact .inl rfl
            · exact .inr (.inl h1)
            · exact .inr (.inr (h1.of (crash_get A1 _ _)))
          have HA2 : Hid (A2.pow.off = true) := by
            show _ = _
            rw [← hA2]; unfold AD.crash; rw [if_neg (by rw [HA1.out]; simp)]
          rw [hA2] at hcall
          clear hA2 HKP HGN
          go_wp2_with fail
          refine hcall.mono ?_
          rintro e w14 ⟨rfl, h14, hb14⟩
          have HB14 := hide (HB13.out.trans hb14)
          have H14 := hide h14
          replace hcall := s_size (i := 0) h14 rfl s HX.out
          have es : A2.size s.data.toList = (0, 9) := by unfold AD.size; rw [if_pos HA2.out]
          rw [es] at hcall
          clear h14 hb14 HB13 es
          go_wp2_with fail
          refine hcall.mono ?_
          rintro e w15 ⟨rfl, rfl⟩
          replace hcall := s_on (i := 0) H14.out rfl
          obtain ⟨A3, hA3⟩ : ∃ A3, A2.on = A3 := ⟨_, rfl⟩
          have HK3' : Hid (Kept A3 s.data.toList (l.take M)) := by show Kept _ _ _; rw [← hA3]; exact HK2'.out.of (on_get A2 _)
          have HG3' : Hid (s = s ∨ ms.any (named s.data.toList) = true ∨ Gone A3 s.data.toList) := by
            rw [← hA3]
            rcases HG2'.out with h1 | h1 | h1
            · exact .inl rfl
            · exact .inr (.inl h1)
            · exact .inr (.inr (h1.of (on_get A2 _)))
          have HA3 : Hid (A3.pow.off = false) := by rw [← hA3]; rfl
          rw [hA3] at hcall
          clear hA3 HK2' HG2' H14
          go_wp2_with fail
          refine hcall.mono ?_
          rintro e w16 ⟨rfl, h16, hb16⟩
          have HB16 := hide (HB14.out.trans hb16)
          have HOK3 := hide (h16.ok (i := 0) rfl)
          have H16 := hide h16
          replace hcall := s_size (i := 0) h16 rfl s HX.out
          rw [HK3'.out.size HA3.out, HWL.out] at hcall
          clear h16 hb16 HB14
          go_wp2_with fail
          refine hcall.mono ?_
          rintro e w17 ⟨rfl, rfl⟩
          replace hcall := all_any (i := 0) H16.out rfl s HX.out
          rw [HK3'.out.all HA3.out HOK3.out] at hcall
          clear H16
          go_wp2_with fail
          refine hcall.mono ?_
          rintro e w18 ⟨rfl, h18, hb18⟩
          have HB18 := hide (HB16.out.trans hb18)
          replace hcall := s_list (i := 0) h18 rfl
          clear h18 hb18 HB16
          go_wp2_with fail
          refine hcall.mono ?_
          rintro e w19 ⟨v19, rfl, hr19, h19, hb19⟩
          have HB19 := hide (HB18.out.trans hb19)
          have hlm3 : (A3.list.map encStr).length = A3.list.length := List.length_map ..
          rw [hlm3] at hr19
          obtain ⟨ad19, cap19, e19, hrr, _, hml19⟩ := row_at hr19
          subst e19
          have h19' : Lies B w19 [.disk p A3] := h19.drop
          have H19 := hide h19'
          replace hcall := has_any w19 ad19 cap19 A3.list hrr hml19 s
          rw [HK3'.out.list HA3.out] at hcall
          clear h19 h19' hb19 HB18 hr19 hrr
          go_wp2_with fail
          refine hcall.mono ?_
          rintro e w20 ⟨rfl, rfl⟩
          have dx : (s.toList == s.toList) = true := by simp
          clear hcall
          go_wp2
          go_ret
          exact ⟨rfl, HB19.out⟩
end Go.Proofs.Ytcmhfpiglacdaaa
