import Derived.Test.YtlkimfmilccanaaGreatMkTale2
import Derived.Test.YtlkimfmilccanaaGreatKOpen
import Derived.Test.YtlkimfmilccanaaGreatKKeep
/-
  A tale's forged.
-/
namespace Go.Proofs.YtlkimfmilccanaaGreat
open Go.RowKit Go.Maps Go.WideMaps
set_option linter.unusedVariables false
set_option linter.unusedSimpArgs false
/-- Does a whole slot of the file hold a number that was not tried? -/
def forgB (A : AD) (k : Key) (tr : List Int) : Bool := match fget A.fs k with
  | none => false
  | some F => ((wholeL (sec F.seen 0)).any fun v => !trB tr v) || ((wholeL (sec F.seen 1)).any fun v => !trB tr v)
theorem forgB_false {A : AD} {k : Key} {tr : List Int} (h : forgB A k tr = false) : ∀ F', fget A.fs k = some F' → ∀ s, s ≤ 1 → ∀ v, wholeL (sec F'.seen s) = some v → TR tr v := by
  intro F hF s hs v hv
  unfold forgB at h
  rw [hF] at h
  simp only at h
  rw [Bool.or_eq_false_iff] at h
  rcases (by omega : s = 0 ∨ s = 1) with rfl | rfl
  · have h1 := h.1
    rw [hv, Option.any_some] at h1
    exact trB_iff.1 (by simpa using h1)
  · have h1 := h.2
    rw [hv, Option.any_some] at h1
    exact trB_iff.1 (by simpa using h1)
section
variable {B : Nat} {w : World} {L : List Item} {a r c t p : Nat} {s : TS} {A : AD} {k : ByteArray}
set_option maxRecDepth 5000 in
set_option maxHeartbeats 4000000 in
theorem tforged_none (h : Lies B w L) (ht : TAt L p A a r c t s k) {k2 : ByteArray} (hk : k2.size ≤ 1000) (ho : A.pow.off = false) (hF : fget A.fs k2.data.toList = none) : Calls Tryz.prog 27 #[.pointer (some ⟨t, 0, none⟩), .pointer (some ⟨p, 0, none⟩), .string k2] w fun e w' => e = .returned (.bool false) ∧ Lies B w' L ∧ Below B w w' := by
  have hc := s_read h ht.qd k2 (by unfold maxLen; omega) 0 128
  have e : A.read k2.data.toList 0 128 = ([], 5) := by unfold AD.read; rw [if_neg (by rw [ho]; simp), hF]
  rw [e] at hc
  clear h ht hk ho hF e
  go_enter Tryz.func27, Tryz.ntmps27
  go_wp2_with fail
  refine hc.mono ?_
  rintro e w1 ⟨rfl, h1, hb1⟩
  have H1 := hide h1
  have HB1 := hide hb1
  clear h1 hb1 hc
  go_wp2
  go_ret
  exact ⟨rfl, H1.out, HB1.out⟩
set_option maxRecDepth 5000 in
set_option maxHeartbeats 4000000 in
theorem tforged_some (h : Lies B w L) (ht : TAt L p A a r c t s k) {k2 : ByteArray} (hk : k2.size ≤ 1000) (ho : A.pow.off = false) {F : AF} (hF : fget A.fs k2.data.toList = some F) (hl : F.seen.length = 128) (R : Bool) (hR : forgB A k2.data.toList s.tr = R) : Calls Tryz.prog 27 #[.pointer (some ⟨t, 0, none⟩), .pointer (some ⟨p, 0, none⟩), .string k2] w fun e w' => e = .returned (.bool R) ∧ Lies B w' L ∧ Below B w w' := by
  have hc := s_read h ht.qd k2 (by unfold maxLen; omega) 0 128
  have e : A.read k2.data.toList 0 128 = (F.seen, 0) := by
    unfold AD.read
    rw [if_neg (by rw [ho]; simp), hF]
    simp only
    rw [if_neg (by decide)]
    simp only [Int.toNat_zero, List.drop_zero]
    rw [show (128 : Int).toNat = 128 from rfl, List.take_of_length_le (by rw [hl]; exact Nat.le_refl _)]
  rw [e] at hc
  obtain ⟨T, hT⟩ : ∃ T : ByteArray, (⟨F.seen.toArray⟩ : ByteArray) = T := ⟨_, rfl⟩
  rw [hT] at hc
  have lT : T.data.toList = F.seen := by rw [← hT]
  have zT : T.size = 128 := by rw [← str_len, lT, hl]
  have HW : Hid (∀ (j : Nat), j ≤ 1 → wvB T j = (wholeL (sec F.seen j)).isSome ∧ ∀ v, wholeL (sec F.seen j) = some v → wvI T j = v) := fun j hj => by
    have e1 : wholeL (T.data.toList.drop (64 * j)) = wholeL (sec F.seen j) := by rw [lT]; exact whole_sec _ _
    refine ⟨?_, fun v hv => ?_⟩
    · unfold wvB
      rw [e1, decide_eq_true (by omega)]; rfl
    · unfold wvI
      rw [if_pos (by omega)]
      rw [← e1] at hv
      have := wholeL_some hv
      exact valL_of this.2 (by have := numB_iff.1 this.1; omega)
  have HR : Hid (R = (((wholeL (sec F.seen 0)).any fun v => !trB s.tr v) || ((wholeL (sec F.seen 1)).any fun v => !trB s.tr v))) := by
    show _ = _
    rw [← hR]
    unfold forgB
    rw [hF]
  have HLW : Hid (∀ (j : Nat), j ≤ 1 → ∀ w, Calls Tryz.prog 16 #[.string T, .int .i64 (j : Int)] w fun e w' => e = .returned (.tuple #[.int .i64 (wvI T j), .bool (wvB T j)]) ∧ Below w.heap.size w w') := fun j hj w => lwhole_any T (by rw [zT]; unfold maxLen; omega) j hj w
  have HT := hide ht
  clear h ht hk ho hF e hl hR hT lT zT
  go_enter Tryz.func27, Tryz.ntmps27
  go_wp2_with fail
  refine hc.mono ?_
  rintro e w1 ⟨rfl, h1, hb1⟩
  have H1 := hide h1
  have HB1 := hide hb1
  clear h1 hb1 hc
  go_wp2
  go_loopw [9] (fun i wr => ∃ n : Nat, n ≤ 2 ∧ i = .int .i64 (n : Int) ∧ (∀ j, j < n → ((wholeL (sec F.seen j)).any fun v => !trB s.tr v) = false) ∧ Lies B wr L ∧ Below B w wr) (fun i _ => 2 - (intOf i).toNat)
  case atStart => exact ⟨0, by omega, rfl, fun j hj => absurd hj (by omega), H1.out, HB1.out⟩
  case round =>
    clear H1 HB1
    obtain ⟨n, hn, rfl, hno, hlr, hbr⟩ := hrel
    have HN := hide hno
    have HLR := hide hlr
    have HBR := hide hbr
    clear hno hlr hbr
    by_cases hlt : n < 2
    · have dn : decide ((n : Int) < 2) = true := decide_eq_true (by omega)
      obtain ⟨hwB, hwI⟩ := HW.out n (by omega)
      have hcw := HLW.out n (by omega) wr
      cases hq : wholeL (sec F.seen n) with
      | none =>
        rw [hq] at hwB
        rw [hwB] at hcw
        have HN2 : Hid (∀ j, j < n + 1 → ((wholeL (sec F.seen j)).any fun v => !trB s.tr v) = false) := fun j hj => by
          by_cases e : j = n
          · subst e; rw [hq]; rfl
          · exact HN.out j (by omega)
        clear hwB hwI hq
        go_wp2_with fail
        refine hcw.mono ?_
        rintro e w2 ⟨rfl, hb2⟩
        have H2 := hide (HLR.out.below hb2)
        have HB2 := hide (HBR.out.trans (hb2.mono HLR.out.base))
        clear hb2 hcw
        go_wp2
        go_roundw
        case rel => exact ⟨n + 1, by omega, by go_num, HN2.out, H2.out, HB2.out⟩
        case measure => simp [intOf]; omega
      | some v =>
        have hv := hwI v hq
        rw [hq] at hwB
        rw [hwB, hv] at hcw
        have hcw' : Calls Tryz.prog 16 #[.string T, .int .i64 (n : Int)] wr fun e w' => e = .returned (.tuple #[.int .i64 v, .bool true]) ∧ Below wr.heap.size wr w' := hcw
        obtain ⟨bt, hbt⟩ : ∃ b, trB s.tr v = b := ⟨_, rfl⟩
        have HHQ := hide hq
        have HBT := hide hbt
        clear hwB hwI hv hcw hq
        go_wp2_with fail
        refine hcw'.mono ?_
        rintro e w2 ⟨rfl, hb2⟩
        have h2 := HLR.out.below hb2
        have HB2 := hide (HBR.out.trans (hb2.mono HLR.out.base))
        have hct := tried_any h2 HT.out.qa HT.out.qr v
        rw [hbt] at hct
        have H2 := hide h2
        clear hb2 hcw' h2 hbt
        go_wp2_with fail
        refine hct.mono ?_
        rintro e w3 ⟨rfl, hw⟩
        obtain rfl := hw.symm
        clear hw hct
        cases bt with
        | true =>
          have HN2 : Hid (∀ j, j < n + 1 → ((wholeL (sec F.seen j)).any fun v => !trB s.tr v) = false) := fun j hj => by
            by_cases e : j = n
            · subst e; rw [HHQ.out, Option.any_some, HBT.out]; rfl
            · exact HN.out j (by omega)
          go_wp2
          go_roundw
          case rel => exact ⟨n + 1, by omega, by go_num, HN2.out, H2.out, HB2.out⟩
          case measure => simp [intOf]; omega
        | false =>
          have HT2 : Hid (R = true) := by
            show _ = _
            rw [HR.out]
            rcases (by omega : n = 0 ∨ n = 1) with e | e
            · rw [e] at HHQ
              rw [HHQ.out, Option.any_some, HBT.out]; rfl
            · rw [e] at HHQ
              rw [HHQ.out, Option.any_some, HBT.out, Bool.or_eq_true]; exact .inr rfl
          go_wp2
          go_ret
          exact ⟨by rw [HT2.out]; rfl, H2.out, HB2.out⟩
    · have hn2 : n = 2 := by omega
      have HF2 : Hid (R = false) := by
        show _ = _
        rw [HR.out, HN.out 0 (by omega), HN.out 1 (by omega)]; rfl
      subst hn2
      have dn : decide (((2 : Nat) : Int) < 2) = false := by decide
      go_wp2
      go_ret
      exact ⟨by rw [HF2.out]; rfl, HLR.out, HBR.out⟩
theorem tforged_any (h : Lies B w L) (ht : TAt L p A a r c t s k) (hk : k.size ≤ 1000) (ho : A.pow.off = false) (hlen : ∀ F, fget A.fs k.data.toList = some F → F.seen.length = 128) : Calls Tryz.prog 27 #[.pointer (some ⟨t, 0, none⟩), .pointer (some ⟨p, 0, none⟩), .string k] w fun e w' => e = .returned (.bool (forgB A k.data.toList s.tr)) ∧ Lies B w' L ∧ Below B w w' := by
  cases hF : fget A.fs k.data.toList with
  | none =>
    have e : forgB A k.data.toList s.tr = false := by unfold forgB; rw [hF]
    rw [e]
    exact tforged_none h ht hk ho hF
  | some F => exact tforged_some h ht hk ho hF (hlen F hF) _ rfl
end
end Go.Proofs.YtlkimfmilccanaaGreat
/-
  The statements' scripts: lists of steps of five cells each.
-/
namespace Go.Proofs.YtlkimfmilccanaaGreat
open Go.RowKit Go.Maps Go.WideMaps
set_option linter.unusedVariables false
structure MOp where
  kind : Int
  two : Bool
  n : Int
  text : ByteArray
  ad : Option Addr
  fates : List FT
  cap : Nat
def MOp.cs (o : MOp) : Array Value := #[.int .i64 o.kind, .bool o.two, .int .i64 o.n, .string o.text, .slice o.ad o.fates.length o.cap]
def MOp.Good (B : Nat) (w : World) (o : MOp) : Prop := KGood B w [o.kind, o.n] [o.text] o.ad o.fates
structure MRows (B : Nat) (w : World) (ad : Option Addr) (xs : List MOp) : Prop where
  at_ : xs = [] ∨ ∃ b o, ad = some ⟨b, o, none⟩ ∧ b < w.heap.size ∧ ∀ i (h : i < xs.length) j, j < 5 → w.cell? ⟨b, o + i * 5 + j, none⟩ = (xs[i].cs)[j]?
  lt : xs ≠ [] → ∀ b o, ad = some ⟨b, o, none⟩ → b < B
  good : ∀ x ∈ xs, x.Good B w
  sz : xs.length * 64 ≤ 140737488355328
theorem MRows.below {B : Nat} {w w' : World} {ad : Option Addr} {xs : List MOp} (h : MRows B w ad xs) (hb : Below B w w') : MRows B w' ad xs := by
  refine ⟨?_, h.lt, fun o ho => (KGood.below (show KGood B w [o.kind, o.n] [o.text] o.ad o.fates from h.good o ho) hb : KGood B w' [o.kind, o.n] [o.text] o.ad o.fates), h.sz⟩
  rcases h.at_ with x | ⟨b, o, ha, hlt, hc⟩
  · exact .inl x
  · refine .inr ⟨b, o, ha, Nat.lt_of_lt_of_le hlt hb.size, fun i hi j hj => ?_⟩
    rw [← hc i hi j hj]
    exact World.cell?_of_block (hb.block b (h.lt (fun e => by rw [e] at hi; simp at hi) b o ha))
theorem MRows.cells {B : Nat} {w : World} {ad : Option Addr} {xs : List MOp} (h : MRows B w ad xs) {k : Nat} (hk : k < xs.length) : ∃ b o, ad = some ⟨b, o, none⟩ ∧ ∀ j, j < 5 → w.cell? ⟨b, o + k * 5 + j, none⟩ = (xs[k].cs)[j]? := by
  rcases h.at_ with x | ⟨b, o, ha, hlt, hc⟩
  · rw [x] at hk; simp at hk
  · exact ⟨b, o, ha, fun j hj => hc k hk j hj⟩
end Go.Proofs.YtlkimfmilccanaaGreat
/-
  A disk stays sound (out of wip/wal/WROk.lean).
-/
namespace Go.Proofs.YtlkimfmilccanaaGreat
open Go.RowKit Go.Maps
set_option linter.unusedVariables false
theorem mok_pow {A : AD} {P : AP} (h : A.Ok) (hp : P.Ok) : AD.Ok { A with pow := P } := ⟨h.c0, h.c1, h.sorted, h.names, h.few, h.files, h.space, hp⟩
theorem mok_remove {A : AD} {d : Key} (h : A.Ok) : (A.remove d).2.Ok := by
  unfold AD.remove
  split
  · exact h
  split
  · exact h
  · have hl := fdel_length (fs := A.fs) (k := d)
    have h1 := fused_fdel_le (fs := A.fs) (k := d)
    have h2 := h.space
    have h3 := h.few
    exact ⟨h.c0, h.c1, fdel_sorted h.sorted, fun q hq => h.names q (List.mem_filter.1 hq).1, by show (fdel A.fs d).length ≤ 16; omega, fun q hq => h.files q (List.mem_filter.1 hq).1, by show (fused (fdel A.fs d) : Int) ≤ A.cap; omega, h.pow⟩
theorem mok_fset {A : AD} {d : Key} {F F' : AF} {P : AP} (h : A.Ok) (hq : fget A.fs d = some F) (hF : F'.Ok) (hsp : (fused A.fs : Int) - F.seen.length + F'.seen.length ≤ A.cap) (hp : P.Ok) : AD.Ok ⟨A.cap, fset A.fs d F', P⟩ := by
  have hu := fused_fset (F' := F') (apart_of h.sorted) hq
  refine ⟨h.c0, h.c1, fset_sorted h.sorted, fun q hq' => ?_, by show (fset A.fs d F').length ≤ 16; rw [fset_length]; exact h.few, fun q hq' => ?_, by show (fused (fset A.fs d F') : Int) ≤ A.cap; omega, hp⟩
  · rcases fset_mem hq' with rfl | hq'
    · have := h.names (d, F) (fget_mem hq)
      exact this
    · exact h.names q hq'
  · rcases fset_mem hq' with rfl | hq'
    · exact hF
    · exact h.files q hq'
theorem mok_sync {A : AD} {d : Key} (h : A.Ok) : (A.sync d).2.Ok := by
  unfold AD.sync
  split
  · exact h
  cases hq : fget A.fs d with
  | none => exact h
  | some F =>
    simp only
    split
    · exact mok_pow h (h.pow.count 2)
    · have hF := h.files _ (fget_mem hq)
      have hsp := h.space
      exact mok_fset h hq (AF.Ok.sync hF) (by show (fused A.fs : Int) - F.seen.length + F.seen.length ≤ A.cap; omega) (h.pow.count 2)
theorem mok_trunc {A : AD} {d : Key} {n : Int} (h : A.Ok) : (A.trunc d n).2.Ok := by
  unfold AD.trunc
  split
  · exact h
  cases hq : fget A.fs d with
  | none => exact h
  | some F =>
    simp only
    split
    · exact h
    · have hF := h.files _ (fget_mem hq)
      have hsp := h.space
      refine mok_fset h hq (AF.Ok.trunc hF _) ?_ h.pow
      have : (F.trunc n.toNat).seen.length ≤ F.seen.length := by show (F.seen.take _).length ≤ _; rw [List.length_take]; omega
      omega
theorem mok_write {A : AD} {d t : Key} {a : Int} (h : A.Ok) : (A.write d a t).2.Ok := by
  unfold AD.write
  split
  · exact h
  by_cases hf : A.fits d a t.length ≠ 0
  · rw [if_pos hf]; exact h
  rw [if_neg hf]
  split
  · exact mok_pow h (h.pow.count 1)
  have hz := fits_zero (A := A) (k := d) (a := a) (n := (t.length : Int)) (by omega)
  obtain ⟨hn, ha0, ha1, hm, hl, hc⟩ := hz
  cases hq : fget A.fs d with
  | some F =>
    have hfl : A.flen d = F.seen.length := by unfold AD.flen; rw [hq]
    rw [hfl] at ha1 hm hc
    have hle : a.toNat ≤ F.seen.length := by
      have : a ≤ (F.seen.length : Int) := ha1
      omega
    have hm2 : a.toNat + t.length ≤ 1048576 := by omega
    have hws := AF.write_seen (F := F) (a := a.toNat) (t := t) hle
    have hF : F.Ok := h.files _ (fget_mem hq)
    refine mok_fset h hq (AF.Ok.write hF hle hm2) ?_ (h.pow.count 1)
    rw [hws]
    have : (fused A.fs : Int) - (F.seen.length : Int) + max (F.seen.length : Int) (a + t.length) ≤ A.cap := hc
    omega
  | none =>
    have hfl : A.flen d = 0 := by unfold AD.flen; rw [hq]
    rw [hfl] at ha1 hm hc
    have hl' := hl hq
    have hdk := fdel_of_none hq
    have ha : a.toNat = 0 := by omega
    have hws := AF.write_seen (F := AF.new) (a := a.toNat) (t := t) (by omega)
    have hmem : ∀ q ∈ fput A.fs d (AF.new.write a.toNat t), q = (d, AF.new.write a.toNat t) ∨ q ∈ A.fs := fun q hq => by
      unfold fput at hq
      rw [hdk] at hq
      exact mem_fins.1 hq
    have hok : (AF.new.write a.toNat t).Ok := AF.Ok.new.write (by omega) (by omega)
    refine ⟨h.c0, h.c1, fput_sorted h.sorted, fun q hq => ?_, ?_, fun q hq => ?_, ?_, h.pow.count 1⟩
    · rcases hmem q hq with rfl | hq
      · exact hn
      · exact h.names q hq
    · have := fput_length (fs := A.fs) (k := d) (F := AF.new.write a.toNat t)
      show (fput A.fs d (AF.new.write a.toNat t)).length ≤ 16
      omega
    · rcases hmem q hq with rfl | hq
      · exact hok
      · exact h.files q hq
    · show (fused (fput A.fs d (AF.new.write a.toNat t)) : Int) ≤ A.cap
      unfold fput
      rw [fused_fins, hdk]
      have : (AF.new : AF).seen.length = 0 := rfl
      simp only [hws]
      omega
end Go.Proofs.YtlkimfmilccanaaGreat
