/-
  The document's disk: without, put.
-/
import Derived.Test.YtlkimfmilccanaaGreatRefFate
namespace Go.Proofs.YtlkimfmilccanaaGreat
open Go.RowKit Go.Maps Go.WideMaps
set_option linter.unusedVariables false
set_option linter.unusedSimpArgs false
theorem wpList_app {P : Program} {ops : Array Oper} {rest : List Oper} {o : Oper} {a : Act} {w w' : World} {Q : Exit → Act → World → Prop} {v : Value} (hg : o.guard = none) (s x : Operand) (tys : Array TypeId) (ho : o.op = .call { callee := .builtin .append, args := #[s, x], argTypes := tys }) (h : (Builtin.append_ tys o.type #[a.eval s, a.eval x]).run P w = .ok v w') (k : wpList P ops Q rest (a.put o.dst v) w') : wpList P ops Q (o :: rest) a w :=
  wpList_plain hg fun K hK => wpRun (run_append_op s x tys ho h) (hK _ _ k)
theorem delR_snoc (xs : List RF) (s : Key) (k : Nat) (h : k < xs.length) : delR (xs.take (k + 1)) s = delR (xs.take k) s ++ (if (xs[k].name.data.toList == s) = true then [] else [xs[k]]) := by
  unfold delR
  rw [take_snoc xs k h, List.filter_append, List.filter_cons, List.filter_nil]
  congr 1
  by_cases e : (xs[k].name.data.toList == s) = true
  · rw [if_pos e, e]; rfl
  · rw [if_neg e]
    have : (xs[k].name.data.toList == s) = false := by simpa using e
    rw [this]
    rfl
theorem delR_few (xs : List RF) (s : Key) : (delR xs s).length ≤ xs.length := List.length_filter_le ..
set_option maxRecDepth 5000 in
set_option maxHeartbeats 1000000 in
theorem without_any (w : World) (ad : Option Addr) (cap : Nat) (xs : List RF) (h : Files w ad xs) (hn : xs.length ≤ 100) (s : ByteArray) :
    Calls Tryz.prog 142 #[.slice ad xs.length cap, .string s] w fun e w' => ∃ v, e = .returned v ∧ w'.ownsRow w.heap.size 147 4 v (delR xs s.data.toList).length (cellsF (delR xs s.data.toList)) ∧ Below w.heap.size w w' := by
  have HF := hide h
  obtain ⟨B, hB⟩ : ∃ B, w.heap.size = B := ⟨_, rfl⟩
  have HBE := hide hB
  rw [hB]
  clear h hB
  go_enter Tryz.func142, Tryz.ntmps142
  go_wp2
  go_loopw [5, 6] (fun v i wr => ∃ k : Nat, k ≤ xs.length ∧ i = .int .i64 (k : Int) ∧ wr.ownsRow B 147 4 v (delR (xs.take k) s.data.toList).length (cellsF (delR (xs.take k) s.data.toList)) ∧ Below B w wr) (fun _ i _ => xs.length - (intOf i).toNat)
  case atStart => exact ⟨0, by omega, rfl, World.ownsRow_nil _ _ _ _, Below.refl _ _⟩
  case round =>
    rename_i v0 i0
    obtain ⟨k, hk, rfl, hown, hbr⟩ := hrel
    by_cases hlt : k < xs.length
    · have dk : decide ((k : Int) < (xs.length : Int)) = true := decide_eq_true (by omega)
      have hk0 : (0 : Int) ≤ (k : Int) := by omega
      have hk1 : (k : Int) < (xs.length : Int) := by omega
      have hfr := HF.out.below (by rw [HBE.out]; exact hbr)
      obtain ⟨b, o, rfl, hbl, hcs⟩ := hfr.cells hlt
      have HSN := hide (delR_snoc xs s.data.toList k hlt)
      obtain ⟨x, hx⟩ : ∃ x, xs[k] = x := ⟨_, rfl⟩
      rw [hx] at hcs HSN
      have f0 : wr.cell? ⟨b, o + k * 4, none⟩ = some (.string x.name) := hcs 0 (by omega)
      have f1 : wr.cell? ⟨b, o + k * 4 + 1, none⟩ = some (.string x.seen) := hcs 1 (by omega)
      have f2 : wr.cell? ⟨b, o + k * 4 + 2, none⟩ = some (.string x.safe) := hcs 2 (by omega)
      have f3 : wr.cell? ⟨b, o + k * 4 + 3, none⟩ = some (.slice x.ad x.ds.length x.cap) := hcs 3 (by omega)
      cases hq : (x.name.data.toList == s.data.toList) with
      | true =>
        have hb1 : (x.name.toList == s.toList) = true := by rw [toList_beq]; exact hq
        have hb2 : (x.name.toList != s.toList) = false := by unfold bne; rw [hb1]; rfl
        rw [hq, if_pos rfl, List.append_nil] at HSN
        have HO := hide hown
        have HB := hide hbr
        clear hown hbr hcs hfr hx hq hbl
        go_wp2
        go_roundw
        case rel => exact ⟨k + 1, by omega, by go_num, by rw [HSN.out]; exact HO.out, HB.out⟩
        case measure => simp [intOf]; omega
      | false =>
        have hb1 : (x.name.toList == s.toList) = false := by rw [toList_beq]; exact hq
        have hb2 : (x.name.toList != s.toList) = true := by unfold bne; rw [hb1]; rfl
        rw [hq, if_neg (by simp)] at HSN
        obtain ⟨g1, hg1⟩ : ∃ g, wr.heap.size = g := ⟨_, rfl⟩
        obtain ⟨w1, hw1⟩ : ∃ w1, wr.alloc (.cells x.cs 147) = w1 := ⟨_, rfl⟩
        obtain ⟨v2, w2, hap, hr2, hb3⟩ := app_file hown (by rw [← HBE.out]; exact Nat.le_trans (Nat.le_refl _) hbr.size) (by have := delR_few (xs.take k) s.data.toList; rw [List.length_take] at this; omega) x 109 hw1 hg1
        rw [← HSN.out] at hr2
        unfold RF.cs at hw1
        have HO := hide hr2
        have HB := hide (hbr.trans hb3)
        clear hown hbr hcs hfr hx hq hbl hr2 hb3
        go_wp2_with (at_builtin; refine wpList_app rfl _ _ _ rfl hap ?_; try go_frame)
        go_roundw
        case rel => exact ⟨k + 1, by omega, by go_num, HO.out, HB.out⟩
        case measure => simp [intOf]; omega
    · have hkl : k = xs.length := by omega
      subst hkl
      have dk : decide ((xs.length : Int) < (xs.length : Int)) = false := decide_eq_false (by omega)
      rw [List.take_length] at hown
      have HO := hide hown
      have HB := hide hbr
      clear hown hbr
      go_wp2
      go_ret
      exact ⟨_, rfl, HO.out, HB.out⟩
theorem insR_none {f : RF} : ∀ {ts : List RF}, (∀ y ∈ ts, bytesBefore f.name.data.toList y.name.data.toList = false) → ∀ r, insR f (ts ++ r) = ts ++ insR f r
  | [], _, r => rfl
  | y :: ts, h, r => by
    show insR f (y :: (ts ++ r)) = y :: (ts ++ insR f r)
    unfold insR
    rw [if_neg (by rw [h y (List.mem_cons_self ..)]; simp)]
    rw [insR_none (fun z hz => h z (List.mem_cons_of_mem _ hz)) r]
    cases r <;> rfl
theorem insR_some {f : RF} : ∀ {ts : List RF}, (∃ y ∈ ts, bytesBefore f.name.data.toList y.name.data.toList = true) → ∀ r, insR f (ts ++ r) = insR f ts ++ r
  | [], ⟨y, hy, _⟩, r => by simp at hy
  | y :: ts, h, r => by
    show insR f (y :: (ts ++ r)) = insR f (y :: ts) ++ r
    unfold insR
    split
    · rfl
    · rename_i hn
      obtain ⟨z, hz, hb⟩ := h
      rcases List.mem_cons.1 hz with e | hz
      · rw [e] at hb; exact absurd hb hn
      · rw [insR_some ⟨z, hz, hb⟩ r]; rfl
/-- How far put has come. -/
def PInv (xs : List RF) (f : RF) (k : Nat) (d : Bool) (ys : List RF) : Prop :=
  (d = false ∧ ys = delR (xs.take k) f.name.data.toList ∧ ∀ y ∈ ys, bytesBefore f.name.data.toList y.name.data.toList = false) ∨
  (d = true ∧ ys = insR f (delR (xs.take k) f.name.data.toList) ∧ ∃ y ∈ delR (xs.take k) f.name.data.toList, bytesBefore f.name.data.toList y.name.data.toList = true)
section
variable {xs : List RF} {f : RF} {k : Nat} {d : Bool} {ys : List RF}
theorem PInv.skip (h : PInv xs f k d ys) (hk : k < xs.length) (he : (xs[k].name.data.toList == f.name.data.toList) = true) : PInv xs f (k + 1) d ys := by
  unfold PInv
  rw [delR_snoc xs _ k hk, if_pos he, List.append_nil]
  exact h
theorem PInv.more (h : PInv xs f k true ys) (hk : k < xs.length) (he : (xs[k].name.data.toList == f.name.data.toList) = false) : PInv xs f (k + 1) true (ys ++ [xs[k]]) := by
  rcases h with ⟨h, _⟩ | ⟨_, h, y, hy, hb⟩
  · cases h
  · refine .inr ⟨rfl, ?_, y, ?_, hb⟩
    · rw [delR_snoc xs _ k hk, if_neg (by rw [he]; simp), insR_some ⟨y, hy, hb⟩, h]
    · rw [delR_snoc xs _ k hk]; exact List.mem_append_left _ hy
theorem PInv.past (h : PInv xs f k false ys) (hk : k < xs.length) (he : (xs[k].name.data.toList == f.name.data.toList) = false) (hb : bytesBefore f.name.data.toList xs[k].name.data.toList = false) : PInv xs f (k + 1) false (ys ++ [xs[k]]) := by
  rcases h with ⟨_, h, hn⟩ | ⟨h, _⟩
  · refine .inl ⟨rfl, ?_, fun y hy => ?_⟩
    · rw [delR_snoc xs _ k hk, if_neg (by rw [he]; simp), h]
    · rcases List.mem_append.1 hy with hy | hy
      · exact hn y hy
      · rw [List.mem_singleton.1 hy]; exact hb
  · cases h
theorem PInv.here (h : PInv xs f k false ys) (hk : k < xs.length) (he : (xs[k].name.data.toList == f.name.data.toList) = false) (hb : bytesBefore f.name.data.toList xs[k].name.data.toList = true) : PInv xs f (k + 1) true ((ys ++ [f]) ++ [xs[k]]) := by
  rcases h with ⟨_, h, hn⟩ | ⟨h, _⟩
  · refine .inr ⟨rfl, ?_, xs[k], ?_, hb⟩
    · rw [delR_snoc xs _ k hk, if_neg (by rw [he]; simp), ← h, insR_none hn]
      unfold insR
      rw [if_pos hb, List.append_assoc]
      rfl
    · rw [delR_snoc xs _ k hk, if_neg (by rw [he]; simp)]
      exact List.mem_append_right _ (List.mem_singleton.2 rfl)
  · cases h
theorem PInv.few (h : PInv xs f k d ys) : ys.length ≤ xs.length + 1 := by
  have hd := delR_few (xs.take k) f.name.data.toList
  rw [List.length_take] at hd
  rcases h with ⟨_, h, _⟩ | ⟨_, h, _⟩
  · rw [h]; omega
  · rw [h]
    have : ∀ l : List RF, (insR f l).length = l.length + 1 := by
      intro l
      induction l with
      | nil => rfl
      | cons y r ih => unfold insR; split <;> simp [ih]
    rw [this]; omega
theorem PInv.end1 (h : PInv xs f xs.length true ys) : ys = putR xs f := by
  rcases h with ⟨h, _⟩ | ⟨_, h, _⟩
  · cases h
  · rw [h, List.take_length]; rfl
theorem PInv.end0 (h : PInv xs f xs.length false ys) : ys ++ [f] = putR xs f := by
  rcases h with ⟨_, h, hn⟩ | ⟨h, _⟩
  · rw [List.take_length] at h
    unfold putR
    rw [← h]
    have := insR_none hn []
    rw [List.append_nil] at this
    rw [this]
    rfl
  · cases h
end
theorem less_before : ∀ x y : List UInt8, Op.bytesLess x y = bytesBefore x y
  | [], [] => rfl
  | _ :: _, [] => rfl
  | [], _ :: _ => rfl
  | a :: x, b :: y => by
    show (decide (a < b) || (a == b && Op.bytesLess x y)) = (decide (a < b) || (a == b && bytesBefore x y))
    rw [less_before x y]
set_option maxRecDepth 5000 in
set_option maxHeartbeats 4000000 in
theorem put_any (w : World) (ad : Option Addr) (cap : Nat) (xs : List RF) (h : Files w ad xs) (hn : xs.length ≤ 100) (f : RF) :
    Calls Tryz.prog 96 #[.slice ad xs.length cap, .agg f.cs] w fun e w' => ∃ v, e = .returned v ∧ w'.ownsRow w.heap.size 147 4 v (putR xs f).length (cellsF (putR xs f)) ∧ Below w.heap.size w w' := by
  obtain ⟨w0, hw0⟩ : ∃ w0, w.alloc (.cells f.cs 147) = w0 := ⟨_, rfl⟩
  have hb0 : Below w.heap.size w w0 := by rw [← hw0]; exact (Below.refl _ _).alloc (Nat.le_refl _) _
  obtain ⟨g, hg⟩ : ∃ g, w.heap.size = g := ⟨_, rfl⟩
  have hgs : w0.heap.size = g + 1 := by rw [← hw0, ← hg]; simp
  have hblk : w0.heap[g]? = some (.cells f.cs 147 (0, 0)) := by rw [← hw0, ← hg]; exact heap_alloc_new w _
  obtain ⟨B, hB⟩ : ∃ B, w0.heap.size = B := ⟨_, rfl⟩
  have HF : Hid (∀ w', Below B w0 w' → Files w' ad xs) := fun w' hb => (h.below hb0).below (by rw [hB]; exact hb)
  have HG : Hid (∀ w', Below B w0 w' → ∀ j, w'.cell? ⟨g, j, none⟩ = f.cs[j]?) := fun w' hb j => by
    have e := hb.block g (by omega)
    rw [cell_of_row w' g j _ _ (0, 0) (by rw [e]; exact hblk)]
  have HBE : Hid (B = w0.heap.size) := hB.symm
  have HEND : Hid (∀ w' v, Below B w0 w' → w'.ownsRow B 147 4 v (putR xs f).length (cellsF (putR xs f)) → w'.ownsRow g 147 4 v (putR xs f).length (cellsF (putR xs f)) ∧ Below g w w') := fun w' v hb ho => by
    refine ⟨⟨ho.1, ?_⟩, by rw [← hg]; exact hb0.trans (hb.mono (by omega))⟩
    rcases ho.2 with h | ⟨g2, c2, cur, h1, h2, rest⟩
    · exact .inl h
    · exact .inr ⟨g2, c2, cur, h1, by omega, rest⟩
  rw [hg]
  unfold RF.cs at hw0 ⊢
  clear h hb0 hblk hgs hB
  go_enter Tryz.func96, Tryz.ntmps96
  go_wp2
  go_loopw [5, 6, 7] (fun v d i wr => ∃ (k : Nat) (db : Bool) (ys : List RF) (vo : Value), vo = v ∧ k ≤ xs.length ∧ i = .int .i64 (k : Int) ∧ d = .bool db ∧ PInv xs f k db ys ∧ wr.ownsRow B 147 4 v ys.length (cellsF ys) ∧ Below B w0 wr) (fun _ _ i _ => xs.length - (intOf i).toNat)
  case atStart => exact ⟨0, false, [], _, rfl, by omega, rfl, rfl, .inl ⟨rfl, rfl, by simp⟩, World.ownsRow_nil _ _ _ _, Below.refl _ _⟩
  case round =>
    obtain ⟨k, db, ys, vo, rfl, hk, rfl, rfl, hpi, hown, hbr⟩ := hrel
    have hfew := hpi.few
    have gf0 : wr.cell? ⟨g, 0, none⟩ = some (.string f.name) := HG.out wr hbr 0
    have gf1 : wr.cell? ⟨g, 1, none⟩ = some (.string f.seen) := HG.out wr hbr 1
    have gf2 : wr.cell? ⟨g, 2, none⟩ = some (.string f.safe) := HG.out wr hbr 2
    have gf3 : wr.cell? ⟨g, 3, none⟩ = some (.slice f.ad f.ds.length f.cap) := HG.out wr hbr 3
    by_cases hlt : k < xs.length
    · have dk : decide ((k : Int) < (xs.length : Int)) = true := decide_eq_true (by omega)
      have hk0 : (0 : Int) ≤ (k : Int) := by omega
      have hk1 : (k : Int) < (xs.length : Int) := by omega
      obtain ⟨b, o, rfl, hbl, hcs0⟩ := (HF.out w0 (Below.refl _ _)).cells hlt
      have HCS : Hid (∀ w', Below B w0 w' → ∀ j, j < 4 → w'.cell? ⟨b, o + k * 4 + j, none⟩ = (xs[k].cs)[j]?) := fun w' hb j hj => by rw [← hcs0 j hj]; exact World.cell?_of_block (hb.block b (by rw [HBE.out]; exact hbl))
      have hcs := HCS.out wr hbr
      have HSK := hide (hpi.skip hlt)
      have HMO : Hid (∀ ys, PInv xs f k true ys → (xs[k].name.data.toList == f.name.data.toList) = false → PInv xs f (k + 1) true (ys ++ [xs[k]])) := fun ys h => h.more hlt
      have HPA : Hid (∀ ys, PInv xs f k false ys → (xs[k].name.data.toList == f.name.data.toList) = false → bytesBefore f.name.data.toList xs[k].name.data.toList = false → PInv xs f (k + 1) false (ys ++ [xs[k]])) := fun ys h => h.past hlt
      have HHE : Hid (∀ ys, PInv xs f k false ys → (xs[k].name.data.toList == f.name.data.toList) = false → bytesBefore f.name.data.toList xs[k].name.data.toList = true → PInv xs f (k + 1) true ((ys ++ [f]) ++ [xs[k]])) := fun ys h => h.here hlt
      obtain ⟨x, hx⟩ : ∃ x, xs[k] = x := ⟨_, rfl⟩
      rw [hx] at hcs HCS HSK HMO HPA HHE
      have f0 : wr.cell? ⟨b, o + k * 4, none⟩ = some (.string x.name) := hcs 0 (by omega)
      have f1 : wr.cell? ⟨b, o + k * 4 + 1, none⟩ = some (.string x.seen) := hcs 1 (by omega)
      have f2 : wr.cell? ⟨b, o + k * 4 + 2, none⟩ = some (.string x.safe) := hcs 2 (by omega)
      have f3 : wr.cell? ⟨b, o + k * 4 + 3, none⟩ = some (.slice x.ad x.ds.length x.cap) := hcs 3 (by omega)
      have HPI := hide hpi
      have HO := hide hown
      have HB := hide hbr
      clear hpi hown hbr hcs hx hbl hcs0
      cases hq : (x.name.data.toList == f.name.data.toList) with
      | true =>
        have hb1 : (x.name.toList == f.name.toList) = true := by rw [toList_beq]; exact hq
        have HN := hide (HSK.out hq)
        clear hq
        go_wp2
        go_quiet (fail)
        go_wp2
        go_roundw
        case rel => exact ⟨k + 1, db, ys, _, rfl, by omega, by go_num, rfl, HN.out, HO.out, drewN_below HB.out _⟩
        case measure => simp [intOf]; omega
      | false =>
        have hb1 : (x.name.toList == f.name.toList) = false := by rw [toList_beq]; exact hq
        have HQ := hide hq
        clear hq HSK
        cases db with
        | true =>
          have HN := hide (HMO.out ys HPI.out HQ.out)
          clear HPA HHE HMO
          go_wp2
          go_quiet (fail)
          go_wp2
          go_quiet (fail)
          clear f0 f1 f2 f3 gf0 gf1 gf2 gf3
          generalize hwd : World.drewN _ _ = wd
          have hbd : Below B w0 wd := by rw [← hwd]; exact drewN_below (drewN_below HB.out _) _
          have hod : wd.ownsRow B 147 4 vo ys.length (cellsF ys) := by rw [← hwd]; exact HO.out
          clear hwd HB HO
          obtain ⟨g2, hg2⟩ : ∃ g, wd.heap.size = g := ⟨_, rfl⟩
          obtain ⟨wa2, hwa2⟩ : ∃ w1, wd.alloc (.cells x.cs 147) = w1 := ⟨_, rfl⟩
          obtain ⟨v2, w2, hap2, hr2, hb2⟩ := app_file hod (by rw [HBE.out]; exact hbd.size) (by omega) x 109 hwa2 hg2
          unfold RF.cs at hwa2
          have e0wd : wd.cell? ⟨b, o + k * 4, none⟩ = some (.string x.name) := HCS.out wd hbd 0 (by omega)
          have e1wd : wd.cell? ⟨b, o + k * 4 + 1, none⟩ = some (.string x.seen) := HCS.out wd hbd 1 (by omega)
          have e2wd : wd.cell? ⟨b, o + k * 4 + 2, none⟩ = some (.string x.safe) := HCS.out wd hbd 2 (by omega)
          have e3wd : wd.cell? ⟨b, o + k * 4 + 3, none⟩ = some (.slice x.ad x.ds.length x.cap) := HCS.out wd hbd 3 (by omega)
          have HO2 := hide hr2
          have HB2 := hide (hbd.trans hb2)
          clear hr2 hb2 hod hbd
          go_wp2_with (at_builtin; refine wpList_app rfl _ _ _ rfl hap2 ?_; try go_frame)
          go_roundw
          case rel => exact ⟨k + 1, true, ys ++ [x], _, rfl, by omega, by go_num, rfl, HN.out, HO2.out, HB2.out⟩
          case measure => simp [intOf]; omega
        | false =>
          cases hbb : bytesBefore f.name.data.toList x.name.data.toList with
          | false =>
            have hlss : Op.bytesLess f.name.toList x.name.toList = false := by rw [less_before, ByteArray.toList_eq, ByteArray.toList_eq]; exact hbb
            have HN := hide (HPA.out ys HPI.out HQ.out hbb)
            clear HPA HHE HMO hbb
            go_wp2
            go_quiet (fail)
            go_wp2
            go_quiet (fail)
            clear f0 f1 f2 f3 gf0 gf1 gf2 gf3
            generalize hwd : World.drewN _ _ = wd
            have hbd : Below B w0 wd := by rw [← hwd]; exact drewN_below (drewN_below HB.out _) _
            have hod : wd.ownsRow B 147 4 vo ys.length (cellsF ys) := by rw [← hwd]; exact HO.out
            clear hwd HB HO
            obtain ⟨g2, hg2⟩ : ∃ g, wd.heap.size = g := ⟨_, rfl⟩
            obtain ⟨wa2, hwa2⟩ : ∃ w1, wd.alloc (.cells x.cs 147) = w1 := ⟨_, rfl⟩
            obtain ⟨v2, w2, hap2, hr2, hb2⟩ := app_file hod (by rw [HBE.out]; exact hbd.size) (by omega) x 109 hwa2 hg2
            unfold RF.cs at hwa2
            have e0wd : wd.cell? ⟨b, o + k * 4, none⟩ = some (.string x.name) := HCS.out wd hbd 0 (by omega)
            have e1wd : wd.cell? ⟨b, o + k * 4 + 1, none⟩ = some (.string x.seen) := HCS.out wd hbd 1 (by omega)
            have e2wd : wd.cell? ⟨b, o + k * 4 + 2, none⟩ = some (.string x.safe) := HCS.out wd hbd 2 (by omega)
            have e3wd : wd.cell? ⟨b, o + k * 4 + 3, none⟩ = some (.slice x.ad x.ds.length x.cap) := HCS.out wd hbd 3 (by omega)
            have HO2 := hide hr2
            have HB2 := hide (hbd.trans hb2)
            clear hr2 hb2 hod hbd
            go_wp2_with (at_builtin; refine wpList_app rfl _ _ _ rfl hap2 ?_; try go_frame)
            go_roundw
            case rel => exact ⟨k + 1, false, ys ++ [x], _, rfl, by omega, by go_num, rfl, HN.out, HO2.out, HB2.out⟩
            case measure => simp [intOf]; omega
          | true =>
            have hlss : Op.bytesLess f.name.toList x.name.toList = true := by rw [less_before, ByteArray.toList_eq, ByteArray.toList_eq]; exact hbb
            have HN := hide (HHE.out ys HPI.out HQ.out hbb)
            clear HPA HHE HMO hbb
            go_wp2
            go_quiet (fail)
            go_wp2
            go_quiet (fail)
            clear f0 f1 f2 f3 gf0 gf1 gf2 gf3
            generalize hwd : World.drewN _ _ = wd
            have hbd : Below B w0 wd := by rw [← hwd]; exact drewN_below (drewN_below HB.out _) _
            have hod : wd.ownsRow B 147 4 vo ys.length (cellsF ys) := by rw [← hwd]; exact HO.out
            clear hwd HB HO
            obtain ⟨g2, hg2⟩ : ∃ g, wd.heap.size = g := ⟨_, rfl⟩
            obtain ⟨wa2, hwa2⟩ : ∃ w1, wd.alloc (.cells f.cs 147) = w1 := ⟨_, rfl⟩
            obtain ⟨v2, w2, hap2, hr2, hb2⟩ := app_file hod (by rw [HBE.out]; exact hbd.size) (by omega) f 109 hwa2 hg2
            unfold RF.cs at hwa2
            have g0wd : wd.cell? ⟨g, 0, none⟩ = some (.string f.name) := HG.out wd hbd 0
            have g1wd : wd.cell? ⟨g, 1, none⟩ = some (.string f.seen) := HG.out wd hbd 1
            have g2wd : wd.cell? ⟨g, 2, none⟩ = some (.string f.safe) := HG.out wd hbd 2
            have g3wd : wd.cell? ⟨g, 3, none⟩ = some (.slice f.ad f.ds.length f.cap) := HG.out wd hbd 3
            have hB2 := hbd.trans hb2
            obtain ⟨g3, hg3⟩ : ∃ g, w2.heap.size = g := ⟨_, rfl⟩
            obtain ⟨wa3, hwa3⟩ : ∃ w1, w2.alloc (.cells x.cs 147) = w1 := ⟨_, rfl⟩
            obtain ⟨v3, w3, hap3, hr3, hb3⟩ := app_file hr2 (by rw [HBE.out]; exact hB2.size) (by rw [List.length_append]; show ys.length + 1 ≤ 1000; omega) x 109 hwa3 hg3
            unfold RF.cs at hwa3
            have e0w2 : w2.cell? ⟨b, o + k * 4, none⟩ = some (.string x.name) := HCS.out w2 hB2 0 (by omega)
            have e1w2 : w2.cell? ⟨b, o + k * 4 + 1, none⟩ = some (.string x.seen) := HCS.out w2 hB2 1 (by omega)
            have e2w2 : w2.cell? ⟨b, o + k * 4 + 2, none⟩ = some (.string x.safe) := HCS.out w2 hB2 2 (by omega)
            have e3w2 : w2.cell? ⟨b, o + k * 4 + 3, none⟩ = some (.slice x.ad x.ds.length x.cap) := HCS.out w2 hB2 3 (by omega)
            have HO3 := hide hr3
            have HB3 := hide (hB2.trans hb3)
            clear hr2 hb2 hod hbd hr3 hb3 hB2
            go_wp2_with (first | (at_builtin; refine wpList_app rfl _ _ _ rfl hap2 ?_; try go_frame) | (at_builtin; refine wpList_app rfl _ _ _ rfl hap3 ?_; try go_frame))
            go_roundw
            case rel => exact ⟨k + 1, true, (ys ++ [f]) ++ [x], _, rfl, by omega, by go_num, rfl, HN.out, HO3.out, HB3.out⟩
            case measure => simp [intOf]; omega
    · have hkl : k = xs.length := by omega
      subst hkl
      have dk : decide ((xs.length : Int) < (xs.length : Int)) = false := decide_eq_false (by omega)
      cases db with
      | true =>
        have HE := hide hpi.end1
        have HO := hide hown
        have HB := hide hbr
        clear hpi hown hbr
        go_wp2
        go_ret
        exact ⟨_, rfl, HEND.out _ _ HB.out (by rw [← HE.out]; exact HO.out)⟩
      | false =>
        have HE := hide hpi.end0
        obtain ⟨g2, hg2⟩ : ∃ g, wr.heap.size = g := ⟨_, rfl⟩
        obtain ⟨wa2, hwa2⟩ : ∃ w1, wr.alloc (.cells f.cs 147) = w1 := ⟨_, rfl⟩
        obtain ⟨v2, w2, hap2, hr2, hb2⟩ := app_file hown (by rw [HBE.out]; exact hbr.size) (by omega) f 109 hwa2 hg2
        unfold RF.cs at hwa2
        have HO := hide hr2
        have HB := hide (hbr.trans hb2)
        clear hpi hown hbr hr2 hb2
        go_wp2_with (at_builtin; refine wpList_app rfl _ _ _ rfl hap2 ?_; try go_frame)
        go_ret
        exact ⟨_, rfl, HEND.out _ _ HB.out (by rw [← HE.out]; exact HO.out)⟩
end Go.Proofs.YtlkimfmilccanaaGreat
