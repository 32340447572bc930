import Derived.Test.YtmmcoedgoekhgaaGreatDoorCurWriter
import Derived.Lib.UnsafeStr
import Derived.Deep.OwnRows
import Derived.Test.YtmmcoedgoekhgaaGreatDoorTurned
import Derived.Deep.RegionHeld3
import Derived.Laws.ResultCell
import Derived.Deep.DrawnRows
/-
  The writer: I64, Raw, Text, Len, New, stop.
-/
namespace Go.Proofs.YtmmcoedgoekhgaaGreatDoor.Cu
set_option maxRecDepth 20000
open Go.RowKit
theorem str_len (r : ByteArray) : r.data.toList.length = r.size := by rw [Array.length_toList]; rfl
set_option maxHeartbeats 1000000 in
theorem wI64 (X : Int) (x : Nat) (hX : IntKind.u64.wrap X = (x : Int)) (p : Nat) (v : Value) (s : Option (List UInt8)) (w : World) (h : CW w p v s) (hl : ∀ l, s = some l → l.length + 8 ≤ 140737488355328) :
    Calls Tryz.prog 149 #[.pointer (some ⟨p, 0, none⟩), .int .i64 X] w fun e w' => e = .returned (.tuple #[]) ∧ ∃ v', CW w' p v' (s.map (· ++ nb x 8)) ∧ Mw p w v w' v' := by
  have HL := hide hl
  obtain ⟨Z, hZ⟩ : ∃ Z : Int, (x : Int) = Z := ⟨_, rfl⟩
  have hc : ∀ w : World, (convert 2 197 (.int .i64 X)).run Tryz.prog w = .ok (.int .u64 Z) w := fun w => by
    have h := run_convert_int (P := Tryz.prog) (w := w) 2 197 .i64 X (by kernel_rfl) (by kernel_rfl)
    rw [show Tryz.prog.intKind 197 = .u64 by kernel_rfl, hX, hZ] at h
    exact h
  have HC := hide hc
  have HZ := hide hZ.symm
  clear hl hX hZ hc
  go_enter Tryz.func149, Tryz.ntmps149
  go_wp2_with (first | (refine wpList_conv rfl _ _ _ rfl .i64 .u64 X Z (by rfl) (HC.out _) ?_) | fail)
  refine (put_64 Z x HZ.out p v s _ h HL.out).mono ?_
  rintro e w1 ⟨rfl, h1⟩
  go_wp2
  go_end0
  exact ⟨rfl, h1⟩
-- left out in this seat: wRaw
-- left out in this seat: wStop
set_option maxHeartbeats 1000000 in
theorem wNew (w : World) : Calls Tryz.prog 147 #[] w fun e w' => e = .returned (.pointer (some ⟨w.heap.size, 0, none⟩)) ∧ CW w' w.heap.size (.slice none 0 0) (some []) ∧ Below w.heap.size w w' ∧ w'.heap.size = w.heap.size + 1 := by
  go_enter Tryz.func147, Tryz.ntmps147
  go_wp2
  go_ret
  exact ⟨rfl, ⟨Two.new w 221 _ 0, Bytes.nil _ _⟩, (Below.refl _ _).alloc (Nat.le_refl _) _, by simp⟩
end Go.Proofs.YtmmcoedgoekhgaaGreatDoor.Cu
/-
  The writer: Out.
-/
namespace Go.Proofs.YtmmcoedgoekhgaaGreatDoor.Cu
set_option maxRecDepth 20000
open Go.RowKit
theorem Bytes.cells {w : World} {B g n cap : Nat} {l : List UInt8} (h : Bytes w B (.slice (some ⟨g, 0, none⟩) n cap) l) (i : Nat) (hi : i < l.length) : w.cell? ⟨g, i, none⟩ = some (byteV (byteAt l i)) := by
  rcases h.2 with ⟨h1, _⟩ | ⟨g', cap', cur, h1, hb, hg, hnc, hcm, hcs, htake⟩
  · cases h1
  · simp only [Value.slice.injEq, Option.some.injEq, Addr.mk.injEq, and_true] at h1
    obtain ⟨rfl, rfl, rfl⟩ := h1
    rw [cell_of_row w g i cur 5 (0, 0) hg]
    rw [Nat.mul_one] at htake
    have e : (cur.toList.take l.length)[i]? = (l.map byteV)[i]? := by rw [htake]
    rw [List.getElem?_take_of_lt hi, List.getElem?_map, List.getElem?_eq_getElem hi, Array.getElem?_toList] at e
    rw [e]
    unfold byteAt
    rw [List.getD_eq_getElem?_getD, List.getElem?_eq_getElem hi]
    rfl
theorem conv_nil (w : World) : (convert 150 9 (.slice none 0 0)).run Tryz.prog w = .ok (.string ⟨#[]⟩) w := by
  have hd : (convert 150 9 (.slice none 0 0)).run Tryz.prog w = .ok (.string ⟨#[]⟩) w := by
    simp [convert, run_underlying Tryz.underlying150, run_underlying Tryz.underlying9, run_underlying Tryz.underlying5, Conv.bytesToString, loadCells]
    try rfl
  exact hd
theorem Bytes.conv {w : World} {B : Nat} {v : Value} {l : List UInt8} (h : Bytes w B v l) : (convert 150 9 v).run Tryz.prog w = .ok (.string ⟨l.toArray⟩) w := by
  rcases h.2 with ⟨rfl, hl⟩ | ⟨g, cap, cur, rfl, hb, hg, _⟩
  · have e : l = [] := List.length_eq_zero_iff.1 hl
    subst e
    exact conv_nil w
  · have hr := run_convert_bytes_arg w 150 5 Tryz.underlying150 Tryz.underlying5 g 0 l.length cap (l.map fun c => (c.toNat : Int)) (by simp) (fun i hi => by
      rw [Nat.zero_add, h.cells i hi]
      unfold byteAt byteV
      rw [List.getD_eq_getElem?_getD, List.getElem?_eq_getElem hi]
      simp [hi]) 9 Tryz.underlying9
    have e : strOfNums (l.map fun c => (c.toNat : Int)) = ⟨l.toArray⟩ := by
      simp only [strOfNums, List.map_map, Function.comp_def, Int.toNat_natCast]
      simp
    rw [e] at hr
    exact hr
theorem below_drewN {B : Nat} {w w' : World} (h : Below B w w') (n : Nat) : Below B w (w'.drewN n) := ⟨h.os, h.tape, h.output, h.size, h.block⟩
def outS (s : Option (List UInt8)) : ByteArray := ⟨(s.getD []).toArray⟩
def outE (s : Option (List UInt8)) : Int := if s.isSome then 0 else 3
set_option maxHeartbeats 1000000 in
theorem wOut (p : Nat) (v : Value) (s : Option (List UInt8)) (w : World) (h : CW w p v s) :
    Calls Tryz.prog 153 #[.pointer (some ⟨p, 0, none⟩)] w fun e w' => e = .returned (.tuple #[.string (outS s), .int .i64 (outE s)]) ∧ Below w.heap.size w w' := by
  have hT : Two 221 w p v (outE s) := by cases s with | none => exact h.1 | some l => exact h.1
  have hc : ∀ m, (convert 150 9 v).run Tryz.prog (w.drewN m) = .ok (.string (outS s)) (w.drewN m) := fun m => by
    cases s with
    | none => rw [h.2]; exact conv_nil _
    | some l => exact Bytes.conv (w := w.drewN m) h.2
  have c0 := hT.c0
  have c1 := hT.c1
  generalize outS s = S at hc ⊢
  generalize outE s = E at c1 ⊢
  clear hT h
  go_enter Tryz.func153, Tryz.ntmps153
  go_wp2
  go_quiet (fail)
  go_wp2
  go_ret2
  exact ⟨rfl, below_drewN (Below.refl _ _) nq⟩
end Go.Proofs.YtmmcoedgoekhgaaGreatDoor.Cu
/-
  strings.Clone: the same text.
-/
namespace Go.Proofs.YtmmcoedgoekhgaaGreatDoor.Cu
set_option maxRecDepth 20000
open Go.RowKit
section
variable {ops : Array Oper} {rest : List Oper} {o : Oper} {a : Act} {w : World} {Q : Exit → Act → World → Prop}
theorem size5 (w : World) : (sizeOf 5).run Tryz.prog w = .ok 1 w := by
  have h : (Tryz.prog.info? 5).map (·.size) = some 1 := by kernel_rfl
  cases hq : Tryz.prog.info? 5 with
  | none => simp [hq] at h
  | some i => simp [hq] at h; simp [sizeOf, typeInfo, hq, h]
end
end Go.Proofs.YtmmcoedgoekhgaaGreatDoor.Cu
/-
  The reader: what it has and its fault; stop, take, Err, Rest, Done, Open.
-/
namespace Go.Proofs.YtmmcoedgoekhgaaGreatDoor.Cu
set_option maxRecDepth 20000
open Go.RowKit
abbrev RS := ByteArray × Int
def nil8 : ByteArray := { data := #[] }
-- left out in this seat: CR
def stopS (c : Int) (st : RS) : RS := if st.2 = 0 then (nil8, c) else st
def takeS (n : Int) (st : RS) : RS := if st.2 = 0 then (if (st.1.size : Int) < n then (nil8, 2) else (st.1.extract n.toNat st.1.size, 0)) else st
def takeA (n : Int) (st : RS) : ByteArray := if st.2 = 0 then (if (st.1.size : Int) < n then nil8 else st.1.extract 0 n.toNat) else nil8
/-- A step on what lies at p alone. -/
def Mr (p : Nat) (w w' : World) : Prop := Mw p w (.slice none 0 0) w' (.slice none 0 0)
theorem Mr.refl (p : Nat) (w : World) : Mr p w w := Mw.refl _ _ _
theorem Mr.trans {p : Nat} {w w1 w2 : World} (h : Mr p w w1) (k : Mr p w1 w2) : Mr p w w2 := Mw.trans h k
theorem Mr.of {p : Nat} {w w' : World} (h : Below w.heap.size w w') : Mr p w w' := Mw.of_below h
theorem Mr.block {p : Nat} {w w' : World} (h : Mr p w w') (k : Nat) (hk : k < w.heap.size) (hp : k ≠ p) : w'.heap[k]? = w.heap[k]? := Mw.block h k hk hp (by simp [Value.ownBlock])
theorem Mr.below {p B : Nat} {w w' : World} (h : Mr p w w') (hp : B ≤ p) (hB : B ≤ w.heap.size) : Below B w w' := Mw.below h hp hB (by simp [Value.ownBlock])
theorem Mr.size {p : Nat} {w w' : World} (h : Mr p w w') : w.heap.size ≤ w'.heap.size := Mw.size h
theorem Mr.set {p i : Nat} {w : World} (v : Value) : Mr p w (w.setCell ⟨p, i, none⟩ v) :=
  ⟨rfl, rfl, rfl, by simp, fun k _ hp _ => Below.heap_setCell w ⟨p, i, none⟩ v k hp, fun _ h => by simp [Value.ownBlock] at h⟩
-- left out in this seat: CR.lt
-- left out in this seat: CR.same
-- left out in this seat: CR.below
-- left out in this seat: rStop
-- left out in this seat: rTake
-- left out in this seat: rErr
-- left out in this seat: rRest
end Go.Proofs.YtmmcoedgoekhgaaGreatDoor.Cu
/-
  read and get of each kind; U8, U16, U32, U64, I64 of the reader.
-/
namespace Go.Proofs.YtmmcoedgoekhgaaGreatDoor.Cu
set_option maxRecDepth 20000
open Go.RowKit
end Go.Proofs.YtmmcoedgoekhgaaGreatDoor.Cu
/-
  The reader: I64, Text, Raw.
-/
namespace Go.Proofs.YtmmcoedgoekhgaaGreatDoor.Cu
set_option maxRecDepth 20000
open Go.RowKit
def num (n : Int) (st : RS) : Nat := be (takeA n st).data.toList
-- left out in this seat: rI64
def textMid (most : Int) (st : RS) : RS := if (num 2 st : Int) > most then stopS 3 (takeS 2 st) else takeS 2 st
def textS (most : Int) (st : RS) : RS := takeS (num 2 st) (textMid most st)
def textA (most : Int) (st : RS) : ByteArray := takeA (num 2 st) (textMid most st)
end Go.Proofs.YtmmcoedgoekhgaaGreatDoor.Cu
/-
  What a reader answers, by lists of bytes.
-/
namespace Go.Proofs.YtmmcoedgoekhgaaGreatDoor.Cu
set_option maxRecDepth 20000
open Go.RowKit
def ofL (l : List UInt8) : ByteArray := ⟨l.toArray⟩
end Go.Proofs.YtmmcoedgoekhgaaGreatDoor.Cu
/-
  Hashes: what the writer's and the reader's Hash ask of the type.
-/
namespace Go.Proofs.YtmmcoedgoekhgaaGreatDoor.Cu
set_option maxRecDepth 20000
open Go.RowKit S
theorem takeH {P : Program} {ops : Array Oper} {Q : Exit → Act → World → Prop} {md : Region.Mode} {S : World → Prop} (i : Nat) (d : Option Tmp) (v : Value) {oi : Oper} {fuel : Nat} {listed : Array Bool} {a : Act} {w : World} (hi : ops[i]? = some oi) (hd : oi.dst = d)
    (hs : Region.noSelect ops = true) (hf : Region.free md ops listed i = true) (hr : (Region.ready md ops listed).contains i = true)
    (hQ : ∀ c a w, Q (.panic c) (a.put oi.dst v) w → Q (.panic c) a w) (hw : Region.wanted oi (yielded ops a.tmps) = true) (hy : ∀ w, S w → (execOp a.eval oi).run P w = .ok (.value v) w) (hS : S w)
    (h : wpAnyH P md ops Q S fuel (listed.setIfInBounds i true) (a.put d v) w) : wpAnyH P md ops Q S (fuel + 1) listed a w :=
  wpAnyH_take hi hs hf hr hQ (.inl ⟨hw, hy⟩) hS (by rw [hd]; exact h)
end Go.Proofs.YtmmcoedgoekhgaaGreatDoor.Cu
/-
  Hash of the writer and of the reader.
-/
namespace Go.Proofs.YtmmcoedgoekhgaaGreatDoor.Cu
set_option maxRecDepth 20000
open Go.RowKit
def hl (h : Nat → UInt8) : List UInt8 := (List.range 32).map h
theorem hl_length (h : Nat → UInt8) : (hl h).length = 32 := by simp [hl]
theorem hl_bv (h : Nat → UInt8) : (hl h).map byteV = (tabv (bv h) 32).toList := by
  unfold hl tabv; rw [List.map_map]; rfl
theorem wp_append_src {o : Oper} {a : Act} {w : World} {K : Act → World → Prop} {Q : Exit → Act → World → Prop} (sl x : Operand) (tx : TypeId)
    (ho : o.op = .call { callee := .builtin .append, args := #[sl, x], argTypes := #[150, tx] }) (B : Nat) (v : Value) (l : List UInt8) (hs : a.eval sl = v) (hown : Bytes w B v l) (X : Value) (news : List UInt8) (hx : a.eval x = X) (hsrc : Src Tryz.prog 1 tx X news.length (news.map byteV) w)
    (hlen : l.length + news.length ≤ 140737488355328) (hB : B ≤ w.heap.size)
    (h : ∀ ad n c w', Bytes w' B (.slice ad n c) (l ++ news) → Mv w v w' (.slice ad n c) → K (a.put o.dst (.slice ad n c)) w') : o.wp Tryz.prog a w K Q := by
  obtain ⟨v', w', hr, h1, h2⟩ := run_append_bytes w B o.type tx v l news hown X hsrc hlen hB
  obtain ⟨ad, n, c, rfl⟩ := h1.shape
  unfold Oper.wp execOp
  simp only [ho, resolve, invoke, builtin, Sem.run_bind, Sem.run_pure, Result.andThen_ok, List.map_toArray, List.map_cons, List.map_nil, hs, hx, hr]
  exact h _ _ _ _ h1 h2
theorem src_hash {w : World} {g : Nat} {h : Nat → UInt8} (hH : Has w g 23 (bv h) 32) : Src Tryz.prog 1 150 (.slice (some ⟨g, 0, none⟩) 32 32) (hl h).length ((hl h).map byteV) w := by
  rw [hl_length, hl_bv]
  refine Src.ofSlice w Tryz.underlying150 ⟨g, 0, none⟩ 32 32 _ (by simp [tabv]) (fun j u hu => World.news_of_block hH j u hu) (fun u hu => ?_)
  simp only [tabv, List.mem_map, List.mem_range] at hu
  obtain ⟨i, _, rfl⟩ := hu
  rfl
attribute [local go_sem ↓] Go.wp_at_zero Go.wp_at_succ
set_option maxRecDepth 100000 in
set_option maxHeartbeats 2000000 in
theorem wHash (h : Nat → UInt8) (p : Nat) (v : Value) (s : Option (List UInt8)) (w : World) (hC : CW w p v s) (hlen : ∀ l, s = some l → l.length + 32 ≤ 140737488355328) :
    Calls Tryz.prog 150 #[.pointer (some ⟨p, 0, none⟩), .agg (tabv (bv h) 32)] w fun e w' => e = .returned (.tuple #[]) ∧ ∃ v', CW w' p v' (s.map (· ++ hl h)) ∧ Mw p w v w' v' := by
  have HL := hide hlen
  clear hlen
  have g0 := Has.new w 23 (bv h) 32 _ rfl
  have gb := (Below.refl w.heap.size w).alloc (Nat.le_refl _) (.cells (tabv (bv h) 32) 23)
  have hC1 := hC.below gb
  cases s with
  | none =>
    have c1 := hC1.1.c1
    have HG := hide gb
    clear gb g0
    go_enter Tryz.func150, Tryz.ntmps150
    go_wp2
    go_end0
    exact ⟨rfl, v, hC1, Mw.of_below HG.out⟩
  | some l =>
    have c1 := hC1.1.c1
    have c0 := hC1.1.c0
    have hplt := hC1.1.lt
    obtain ⟨g, hg⟩ : ∃ g, w.heap.size = g := ⟨_, rfl⟩
    have HG := hide gb
    have HH := hide g0
    have HP : Hid (p + 1 ≤ (w.alloc (.cells (tabv (bv h) 32) 23)).heap.size) := hplt
    have HLL : Hid (l.length + (hl h).length ≤ 140737488355328) := by
      show _ ≤ _
      rw [hl_length]; exact HL.out l rfl
    clear gb g0 hplt
    go_enter Tryz.func150, Tryz.ntmps150
    go_wp2
    generalize hw1 : w.alloc (.cells (tabv (bv h) 32) 23) = w1 at hC1 c0 c1 HG HH HP ⊢
    rw [hg] at HH
    clear hw1
    refine wp_region_noPanic ?_
    refine wp_region_held_drew (S := fun _ => True) (by kernel_rfl) trivial (fun hHeld => ?_)
    refine takeH 0 (some 9) (.pointer (some ⟨p, 0, none⟩)) rfl rfl (by kernel_rfl) (by kernel_rfl) (by kernel_rfl) (fun _ _ _ h => h) (by rfl) (fun w hw => by first | rfl | (go_simp; done) | (go_simp; rfl)) hHeld ?_
    simp only [Act.put, List.setIfInBounds_toArray, List.set_cons_zero, List.set_cons_succ]
    refine takeH 1 (some 10) (.pointer (some ⟨p, 0, none⟩)) rfl rfl (by kernel_rfl) (by kernel_rfl) (by kernel_rfl) (fun _ _ _ h => h) (by rfl) (fun w hw => by first | rfl | (go_simp; done) | (go_simp; rfl)) hHeld ?_
    simp only [Act.put, List.setIfInBounds_toArray, List.set_cons_zero, List.set_cons_succ]
    refine takeH 2 (some 11) (.pointer (some ⟨p, 0, none⟩)) rfl rfl (by kernel_rfl) (by kernel_rfl) (by kernel_rfl) (fun _ _ _ h => h) (by rfl) (fun w hw => by first | rfl | (go_simp; done) | (go_simp; rfl)) hHeld ?_
    simp only [Act.put, List.setIfInBounds_toArray, List.set_cons_zero, List.set_cons_succ]
    refine takeH 3 (some 12) (.pointer (some ⟨p, 0, none⟩)) rfl rfl (by kernel_rfl) (by kernel_rfl) (by kernel_rfl) (fun _ _ _ h => h) (by rfl) (fun w hw => by first | rfl | (go_simp; done) | (go_simp; rfl)) hHeld ?_
    simp only [Act.put, List.setIfInBounds_toArray, List.set_cons_zero, List.set_cons_succ]
    refine takeH 5 (some 14) (.slice (some ⟨g, 0, none⟩) 32 32) rfl rfl (by kernel_rfl) (by kernel_rfl) (by kernel_rfl) (fun _ _ _ h => h) (by rfl) (fun w hw => by first | rfl | (go_simp; done) | (go_simp; rfl)) hHeld ?_
    simp only [Act.put, List.setIfInBounds_toArray, List.set_cons_zero, List.set_cons_succ]
    refine wpAnyH_ready (rs := [4]) (by kernel_rfl) (by simp) (AllReadyH.cons rfl (fun K hK => ?_) AllReadyH.nil)
    rw [if_pos (by rfl)]
    go_simp
    refine hK.out _ _ trivial (fun hHeld => ?_)
    clear hK K
    refine wpAnyH_ready (rs := [6]) (by kernel_rfl) (by simp) (AllReadyH.cons rfl (fun K hK => ?_) AllReadyH.nil)
    rw [if_pos (by rfl)]
    refine wp_append_src _ _ 150 rfl (p + 1) v l (by rfl) (w := w1.drew) (hC1.2 : Bytes w1.drew (p + 1) v l) (.slice (some ⟨g, 0, none⟩) 32 32) (hl h) (by rfl) (src_hash (w := w1.drew) HH.out) HLL.out HP.out ?_
    intro ad n1 c1' w2 hB2 hM2
    simp only [Act.put, List.setIfInBounds_toArray]
    refine hK.out _ _ trivial (fun hHeld => ?_)
    clear hK K
    obtain ⟨t1, t2, t3, t4⟩ := stored (w := w1.drew) hC1.1 hC1.2 hM2 hB2
    have d0 := t1.c0
    have df := t1.fz 0
    refine takeH 7 (some 16) (.pointer (some ⟨p, 0, none⟩)) rfl rfl (by kernel_rfl) (by kernel_rfl) (by kernel_rfl) (fun _ _ _ h => h) (by rfl) (fun w hw => by first | rfl | (go_simp; done) | (go_simp; rfl)) hHeld ?_
    simp only [Act.put]
    refine takeH 8 (some 17) (.pointer (some ⟨p, 0, none⟩)) rfl rfl (by kernel_rfl) (by kernel_rfl) (by kernel_rfl) (fun _ _ _ h => h) (by rfl) (fun w hw => by first | rfl | (go_simp; done) | (go_simp; rfl)) hHeld ?_
    simp only [Act.put]
    refine wpAnyH_ready (rs := [9]) (by kernel_rfl) (by simp) (AllReadyH.cons rfl (fun K hK => ?_) AllReadyH.nil)
    rw [if_pos (by rfl)]
    go_simp
    refine hK.out _ _ trivial (fun hHeld => ?_)
    clear hK K
    refine ⟨by kernel_rfl, ?_⟩
    refine NoPanic.normal ?_
    go_wp2
    go_end0
    refine ⟨rfl, _, ⟨t2, t3⟩, (Mw.of_below HG.out).trans (Mw.trans (Mw.of_below (Below.refl w1.heap.size w1).drew) t4)⟩
end Go.Proofs.YtmmcoedgoekhgaaGreatDoor.Cu
/-
  Hash of the reader.
-/
namespace Go.Proofs.YtmmcoedgoekhgaaGreatDoor.Cu
set_option maxRecDepth 20000
open Go.RowKit
/-- The hash that bytes are: zeros where there are none. -/
def hOf (b : ByteArray) : Nat → UInt8 := fun i => byteAt b.data.toList i
theorem copied (A : ByteArray) (hA : A.size ≤ 32) : ((tabv (fun _ => .int .u8 0) 32).toList.take 0 ++ A.data.toList.map byteV ++ (tabv (fun _ => .int .u8 0) 32).toList.drop (0 + (A.data.toList.map byteV).length)).toArray = tabv (bv (hOf A)) 32 := by
  refine tabv_ext _ _ _ (by simp [tabv]; omega) fun i hi => ?_
  rw [List.getElem?_toArray, List.take_zero, List.nil_append, Nat.zero_add, List.length_map, str_len]
  unfold bv hOf byteAt
  by_cases h : i < A.size
  · have hl : i < A.data.toList.length := by rw [str_len]; exact h
    rw [List.getElem?_append_left (by rw [List.length_map]; exact hl), List.getElem?_map, List.getElem?_eq_getElem hl, List.getD_eq_getElem?_getD, List.getElem?_eq_getElem hl]
    rfl
  · rw [List.getElem?_append_right (by rw [List.length_map, str_len]; omega), List.length_map, str_len, List.getElem?_drop, show A.size + (i - A.size) = i by omega, Array.getElem?_toList, tabv_get _ _ _ hi, List.getD_eq_getElem?_getD, List.getElem?_eq_none (by rw [str_len]; omega)]
    rfl
theorem Mr.low {p : Nat} {w w1 w2 : World} (h : Mr p w w1) (hb : Below w.heap.size w1 w2) : Mr p w w2 :=
  ⟨hb.os.trans (Mw.os h), hb.tape.trans (Mw.tape h), hb.output.trans (Mw.output h), Nat.le_trans (Mr.size h) hb.size, fun k hk hp _ => (hb.block k hk).trans (Mr.block h k hk hp), fun _ h => by simp [Value.ownBlock] at h⟩
attribute [local go_sem ↓] Go.wp_at_zero Go.wp_at_succ
-- left out in this seat: rHash
end Go.Proofs.YtmmcoedgoekhgaaGreatDoor.Cu
