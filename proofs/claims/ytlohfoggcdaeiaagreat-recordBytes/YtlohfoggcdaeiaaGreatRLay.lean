/-
  Each kind's lay; Write (printed by gen_r5.py).
-/
import Derived.Test.YtlohfoggcdaeiaaGreatROf
namespace Go.Proofs.YtlohfoggcdaeiaaGreat
open Go.RowKit S
set_option linter.unusedVariables false
set_option linter.unusedSimpArgs false
open Cu (nb be hl ofL CW Mw CR Mr RS takeS takeA hOf nil8 num doneS)
/-- lay's variables: the writer at p, the record's value at g. -/
structure LB (w0 : World) (v0 : Value) (p g : Nat) (ty : TypeId) (f : Nat → Value) (m : Nat) (L : List UInt8) (v : Value) (w : World) : Prop where
  cw : CW w p v (some L)
  var : Has w g ty f m
  mw : Mw p w0 v0 w v
  ne : g ≠ p ∧ v.ownBlock ≠ some g
theorem Has.same {w w' : World} {g m : Nat} {t : TypeId} {f : Nat → Value} (h : Has w g t f m) (e : w'.heap[g]? = w.heap[g]?) : Has w' g t f m := by
  unfold Has at h ⊢
  rw [e]; exact h
theorem LB.call {w0 : World} {v0 : Value} {p g : Nat} {ty : TypeId} {f : Nat → Value} {m : Nat} {L L' : List UInt8} {v v' : Value} {w w' : World} (h : LB w0 v0 p g ty f m L v w) (hC : CW w' p v' (some L')) (hM : Mw p w v w' v') : LB w0 v0 p g ty f m L' v' w' :=
  ⟨hC, h.var.same (hM.block g h.var.lt h.ne.1 h.ne.2), h.mw.trans hM, h.ne.1, fun e => by
    rcases hM.own g e with h1 | h1
    · exact h.ne.2 h1
    · have := h.var.lt; omega⟩
theorem LB.start {w0 : World} {v0 : Value} {p : Nat} {ty : TypeId} {f : Nat → Value} {m : Nat} {L : List UInt8} (hC : CW w0 p v0 (some L)) : LB w0 v0 p w0.heap.size ty f m L v0 (w0.alloc (.cells (tabv f m) ty)) := by
  have hb : Below w0.heap.size w0 (w0.alloc (.cells (tabv f m) ty)) := (Below.refl w0.heap.size w0).alloc (Nat.le_refl _) _
  exact ⟨hC.below hb, Has.new w0 ty f m _ rfl, Mw.of_below hb, by have := hC.lt; omega, fun e => by have := (hC.own _ e).2; omega⟩
theorem LB.low {w0 : World} {v0 : Value} {p g : Nat} {ty : TypeId} {f : Nat → Value} {m : Nat} {L : List UInt8} {v : Value} {w w' : World} (h : LB w0 v0 p g ty f m L v w) (hb : Below w.heap.size w w') : LB w0 v0 p g ty f m L v w' :=
  ⟨h.cw.below hb, h.var.below hb h.var.lt, h.mw.trans (Mw.of_below hb), h.ne⟩
theorem conv16 (a : Int) (h0 : 0 ≤ a) (h1 : a < 65536) (w : World) : (convert 3 115 (.int .i64 a)).run Tryz.prog w = .ok (.int .u16 a) w := by
  have h := run_convert_int (P := Tryz.prog) (w := w) 3 115 .i64 a (by kernel_rfl) (by kernel_rfl)
  rw [show Tryz.prog.intKind 115 = .u16 by kernel_rfl, show IntKind.u16.wrap a = a by rw [IntKind.wrap_u16]; omega] at h
  exact h
theorem u64_idx {x : Int} (h : idxB x = true) : IntKind.u64.wrap x = (x.toNat : Int) := by
  rw [idxB_iff] at h
  rw [IntKind.wrap_u64]
  omega
def bytesUs (l : List Upd) : List UInt8 := l.flatMap bytesU
theorem bytesUs_next {l : List Upd} {j : Nat} {x : Upd} (hx : l[j]? = some x) : bytesUs (l.take (j + 1)) = bytesUs (l.take j) ++ bytesU x := by
  unfold bytesUs; rw [take_snoc hx, List.flatMap_append]; simp
theorem bytesUs_len {l : List Upd} (hv : l.all validB = true) : (bytesUs l).length ≤ 69 * l.length := by
  induction l with
  | nil => simp [bytesUs]
  | cons u l ih =>
    simp only [List.all_cons, Bool.and_eq_true] at hv
    have h1 := writeS_len hv.1
    have h2 := ih hv.2
    unfold bytesUs at h2 ⊢
    rw [List.flatMap_cons, List.length_append, List.length_cons]
    omega
set_option maxRecDepth 100000 in
set_option maxHeartbeats 40000000 in
theorem layU_any (u : Upd) (hv : validB u = true) (p : Nat) (v : Value) (L : List UInt8) (w : World) (hC : CW w p v (some L)) (hL : L.length ≤ 2000000) : Calls Tryz.prog 132 #[.pointer (some ⟨p, 0, none⟩), .agg (tabv u.v 36)] w fun e w' => e = .returned (.tuple #[]) ∧ ∃ v', CW w' p v' (some (L ++ bytesU u)) ∧ Mw p w v w' v' := by
  have HW : Hid ((ofL (bytesU u)).data.toList = bytesU u) := by show _ = _; rw [Cu.ofL_data]
  have HS : Hid (writeS u = ofL (bytesU u)) := by show _ = _; unfold writeS; rw [if_pos hv]
  have hlen := writeS_len hv
  obtain ⟨w1, hW1⟩ : ∃ wX, w.alloc (.cells (tabv u.v 36) 36) = wX := ⟨_, rfl⟩
  have r1 : Has w1 w.heap.size 36 u.v 36 := by rw [← hW1]; exact Has.new w 36 u.v 36 _ rfl
  have b1 : Below w.heap.size w w1 := by rw [← hW1]; exact (Below.refl w.heap.size w).alloc (Nat.le_refl _) _
  have R1 := hide r1
  have C1 := hide (hC.below b1)
  go_enter Tryz.func132, Tryz.ntmps132
  go_wp2_with (first | refine wpW_load_at 36 _ rfl (w.heap.size) (0) (by rfl) (by rfl) _ 36 _ (R1.out.at_ 0 (by omega) (fun i hi => by rw [Nat.zero_add])) Tryz.underlying36 rfl infoU ?_ | fail)
  refine (write_any u _).mono ?_
  rintro e w2 ⟨rfl, hb2⟩
  rw [HS.out]
  have b2 : Below w.heap.size w w2 := b1.trans (hb2.mono b1.size)
  have C2 := hide (C1.out.below hb2)
  clear hW1 r1 b1 hb2 R1 C1
  obtain ⟨t, ht⟩ : ∃ t, ofL (bytesU u) = t := ⟨_, rfl⟩
  rw [ht] at HW ⊢
  have hts : t.size ≤ 69 := by rw [← ht, Cu.ofL_size]; omega
  clear ht
  go_wp2_with fail
  refine (Cu.wRaw t p v (some L) _ C2.out (fun l e => by cases e; omega)).mono ?_
  rintro e w3 ⟨rfl, v3, hC3, hM3⟩
  have hC3 : CW w3 p v3 (some (L ++ t.data.toList)) := hC3
  rw [HW.out] at hC3
  go_wp2
  go_end0
  exact ⟨rfl, v3, hC3, (Mw.of_below b2).trans hM3⟩
set_option maxRecDepth 100000 in
set_option maxHeartbeats 40000000 in
theorem lSigned_any (x a b : Int) (hx : idxB x = true) (ha : 0 ≤ a ∧ a ≤ 2048) (hb : 0 ≤ b ∧ b ≤ 2048) (p : Nat) (v : Value) (L : List UInt8) (w : World) (hC : CW w p v (some L)) (hL : L.length ≤ 1000000) : Calls Tryz.prog 156 #[.agg (tabv (Sg.v ⟨x, a, b⟩) 3), .pointer (some ⟨p, 0, none⟩)] w fun e w' => e = .returned (.tuple #[]) ∧ ∃ v', CW w' p v' (some (L ++ (nb x.toNat 8 ++ (nb a.toNat 2 ++ nb b.toNat 2)))) ∧ Mw p w v w' v' := by
  obtain ⟨w1, hW1⟩ : ∃ wX, w.alloc (.cells (tabv (Sg.v ⟨x, a, b⟩) 3) 101) = wX := ⟨_, rfl⟩
  have M1 := hide (show LB w v p w.heap.size 101 (Sg.v ⟨x, a, b⟩) 3 L v w1 by rw [← hW1]; exact LB.start hC)
  go_enter Tryz.func156, Tryz.ntmps156
  have c1 : w1.cell? ⟨w.heap.size, 0, none⟩ = some (.int .i64 x) := M1.out.var.cell 0 (by omega)
  go_wp2_with fail
  refine (Cu.wI64 x x.toNat (u64_idx hx) p _ (some (L)) _ M1.out.cw (fun l e => by cases e; simp [Cu.nb_length, Cu.hl_length]; omega)).mono ?_
  rintro e w2 ⟨rfl, v2, hCq, hMq⟩
  have hCq : CW w2 p v2 (some (L ++ nb x.toNat 8)) := hCq
  have M2 := hide (M1.out.call hCq hMq)
  clear hCq hMq M1 c1
  have c2 : w2.cell? ⟨w.heap.size, 1, none⟩ = some (.int .i64 a) := M2.out.var.cell 1 (by omega)
  have KC2 := hide (conv16 a (by omega) (by omega))
  go_wp2_with (first | refine Cu.wpList_conv rfl _ _ _ rfl .i64 .u16 a a (by rfl) (KC2.out _) ?_ | fail)
  refine (Cu.wU16 a a.toNat (by omega) p _ (some (L ++ nb x.toNat 8)) _ M2.out.cw (fun l e => by cases e; simp [Cu.nb_length, Cu.hl_length]; omega)).mono ?_
  rintro e w3 ⟨rfl, v3, hCq, hMq⟩
  have hCq : CW w3 p v3 (some ((L ++ nb x.toNat 8) ++ nb a.toNat 2)) := hCq
  have M3 := hide (M2.out.call hCq hMq)
  clear hCq hMq M2 c2 KC2
  have c3 : w3.cell? ⟨w.heap.size, 2, none⟩ = some (.int .i64 b) := M3.out.var.cell 2 (by omega)
  have KC3 := hide (conv16 b (by omega) (by omega))
  go_wp2_with (first | refine Cu.wpList_conv rfl _ _ _ rfl .i64 .u16 b b (by rfl) (KC3.out _) ?_ | fail)
  refine (Cu.wU16 b b.toNat (by omega) p _ (some ((L ++ nb x.toNat 8) ++ nb a.toNat 2)) _ M3.out.cw (fun l e => by cases e; simp [Cu.nb_length, Cu.hl_length]; omega)).mono ?_
  rintro e w4 ⟨rfl, v4, hCq, hMq⟩
  have hCq : CW w4 p v4 (some (((L ++ nb x.toNat 8) ++ nb a.toNat 2) ++ nb b.toNat 2)) := hCq
  have M4 := hide (M3.out.call hCq hMq)
  clear hCq hMq M3 c3 KC3
  go_wp2
  go_end0
  exact ⟨rfl, v4, by have := M4.out.cw; simpa only [List.append_assoc] using this, M4.out.mw⟩
set_option maxRecDepth 100000 in
set_option maxHeartbeats 40000000 in
theorem lRevoked_any (x : Int) (h k : Nat → UInt8) (hx : idxB x = true) (p : Nat) (v : Value) (L : List UInt8) (w : World) (hC : CW w p v (some L)) (hL : L.length ≤ 1000000) : Calls Tryz.prog 164 #[.agg (tabv (Rv.v ⟨x, h, k⟩) 65), .pointer (some ⟨p, 0, none⟩)] w fun e w' => e = .returned (.tuple #[]) ∧ ∃ v', CW w' p v' (some (L ++ (nb x.toNat 8 ++ (hl h ++ hl k)))) ∧ Mw p w v w' v' := by
  obtain ⟨w1, hW1⟩ : ∃ wX, w.alloc (.cells (tabv (Rv.v ⟨x, h, k⟩) 65) 105) = wX := ⟨_, rfl⟩
  have M1 := hide (show LB w v p w.heap.size 105 (Rv.v ⟨x, h, k⟩) 65 L v w1 by rw [← hW1]; exact LB.start hC)
  go_enter Tryz.func164, Tryz.ntmps164
  have c1 : w1.cell? ⟨w.heap.size, 0, none⟩ = some (.int .i64 x) := M1.out.var.cell 0 (by omega)
  go_wp2_with fail
  refine (Cu.wI64 x x.toNat (u64_idx hx) p _ (some (L)) _ M1.out.cw (fun l e => by cases e; simp [Cu.nb_length, Cu.hl_length]; omega)).mono ?_
  rintro e w2 ⟨rfl, v2, hCq, hMq⟩
  have hCq : CW w2 p v2 (some (L ++ nb x.toNat 8)) := hCq
  have M2 := hide (M1.out.call hCq hMq)
  clear hCq hMq M1 c1
  have aH2 : Hid (At w2 w.heap.size 1 (bv h) 32) := fun j hj => by rw [M2.out.var.cell (1 + j) (by omega)]; exact congrArg some (Rv.v_h _ j hj)
  go_wp2_with (first | refine wpW_load_at 25 _ rfl (w.heap.size) (1) (by rfl) (by rfl) _ 32 _ (aH2.out) Tryz.underlying25 rfl info26 ?_ | fail)
  refine (Cu.wHash h p _ (some (L ++ nb x.toNat 8)) _ M2.out.cw (fun l e => by cases e; simp [Cu.nb_length, Cu.hl_length]; omega)).mono ?_
  rintro e w3 ⟨rfl, v3, hCq, hMq⟩
  have hCq : CW w3 p v3 (some ((L ++ nb x.toNat 8) ++ hl h)) := hCq
  have M3 := hide (M2.out.call hCq hMq)
  clear hCq hMq M2 aH2
  have aH3 : Hid (At w3 w.heap.size 33 (bv k) 32) := fun j hj => by rw [M3.out.var.cell (33 + j) (by omega)]; exact congrArg some (Rv.v_k _ j hj)
  go_wp2_with (first | refine wpW_load_at 25 _ rfl (w.heap.size) (33) (by rfl) (by rfl) _ 32 _ (aH3.out) Tryz.underlying25 rfl info26 ?_ | fail)
  refine (Cu.wHash k p _ (some ((L ++ nb x.toNat 8) ++ hl h)) _ M3.out.cw (fun l e => by cases e; simp [Cu.nb_length, Cu.hl_length]; omega)).mono ?_
  rintro e w4 ⟨rfl, v4, hCq, hMq⟩
  have hCq : CW w4 p v4 (some (((L ++ nb x.toNat 8) ++ hl h) ++ hl k)) := hCq
  have M4 := hide (M3.out.call hCq hMq)
  clear hCq hMq M3 aH3
  go_wp2
  go_end0
  exact ⟨rfl, v4, by have := M4.out.cw; simpa only [List.append_assoc] using this, M4.out.mw⟩
set_option maxRecDepth 100000 in
set_option maxHeartbeats 40000000 in
theorem lFailed_any (n : Int) (hx : 1 ≤ n ∧ n ≤ 65535) (p : Nat) (v : Value) (L : List UInt8) (w : World) (hC : CW w p v (some L)) (hL : L.length ≤ 1000000) : Calls Tryz.prog 179 #[.agg #[.int .i64 n], .pointer (some ⟨p, 0, none⟩)] w fun e w' => e = .returned (.tuple #[]) ∧ ∃ v', CW w' p v' (some (L ++ nb n.toNat 2)) ∧ Mw p w v w' v' := by
  obtain ⟨w1, hW1⟩ : ∃ wX, w.alloc (.cells (tabv (fun _ => .int .i64 n) 1) 107) = wX := ⟨_, rfl⟩
  have M1 := hide (show LB w v p w.heap.size 107 (fun _ => .int .i64 n) 1 L v w1 by rw [← hW1]; exact LB.start hC)
  have hW1 : w.alloc (.cells #[.int .i64 n] 107) = w1 := hW1
  go_enter Tryz.func179, Tryz.ntmps179
  have c1 : w1.cell? ⟨w.heap.size, 0, none⟩ = some (.int .i64 n) := M1.out.var.cell 0 (by omega)
  have KC1 := hide (conv16 n (by omega) (by omega))
  go_wp2_with (first | refine Cu.wpList_conv rfl _ _ _ rfl .i64 .u16 n n (by rfl) (KC1.out _) ?_ | fail)
  refine (Cu.wU16 n n.toNat (by omega) p _ (some (L)) _ M1.out.cw (fun l e => by cases e; simp [Cu.nb_length, Cu.hl_length]; omega)).mono ?_
  rintro e w2 ⟨rfl, v2, hCq, hMq⟩
  have hCq : CW w2 p v2 (some (L ++ nb n.toNat 2)) := hCq
  have M2 := hide (M1.out.call hCq hMq)
  clear hCq hMq M1 c1 KC1
  go_wp2
  go_end0
  exact ⟨rfl, v2, by have := M2.out.cw; simpa only [List.append_assoc] using this, M2.out.mw⟩
set_option maxRecDepth 100000 in
set_option maxHeartbeats 40000000 in
theorem lClosed_any (x : Int) (hx : idxB x = true) (p : Nat) (v : Value) (L : List UInt8) (w : World) (hC : CW w p v (some L)) (hL : L.length ≤ 1000000) : Calls Tryz.prog 182 #[.agg #[.int .i64 x], .pointer (some ⟨p, 0, none⟩)] w fun e w' => e = .returned (.tuple #[]) ∧ ∃ v', CW w' p v' (some (L ++ nb x.toNat 8)) ∧ Mw p w v w' v' := by
  obtain ⟨w1, hW1⟩ : ∃ wX, w.alloc (.cells (tabv (fun _ => .int .i64 x) 1) 109) = wX := ⟨_, rfl⟩
  have M1 := hide (show LB w v p w.heap.size 109 (fun _ => .int .i64 x) 1 L v w1 by rw [← hW1]; exact LB.start hC)
  have hW1 : w.alloc (.cells #[.int .i64 x] 109) = w1 := hW1
  go_enter Tryz.func182, Tryz.ntmps182
  have c1 : w1.cell? ⟨w.heap.size, 0, none⟩ = some (.int .i64 x) := M1.out.var.cell 0 (by omega)
  go_wp2_with fail
  refine (Cu.wI64 x x.toNat (u64_idx hx) p _ (some (L)) _ M1.out.cw (fun l e => by cases e; simp [Cu.nb_length, Cu.hl_length]; omega)).mono ?_
  rintro e w2 ⟨rfl, v2, hCq, hMq⟩
  have hCq : CW w2 p v2 (some (L ++ nb x.toNat 8)) := hCq
  have M2 := hide (M1.out.call hCq hMq)
  clear hCq hMq M1 c1
  go_wp2
  go_end0
  exact ⟨rfl, v2, by have := M2.out.cw; simpa only [List.append_assoc] using this, M2.out.mw⟩
set_option maxRecDepth 100000 in
set_option maxHeartbeats 40000000 in
theorem lOurs_any (u : Upd) (hv : validB u = true) (p : Nat) (v : Value) (L : List UInt8) (w : World) (hC : CW w p v (some L)) (hL : L.length ≤ 1000000) : Calls Tryz.prog 129 #[.agg (tabv u.v 36), .pointer (some ⟨p, 0, none⟩)] w fun e w' => e = .returned (.tuple #[]) ∧ ∃ v', CW w' p v' (some (L ++ bytesU u)) ∧ Mw p w v w' v' := by
  obtain ⟨w1, hW1⟩ : ∃ wX, w.alloc (.cells (tabv u.v 36) 99) = wX := ⟨_, rfl⟩
  have M1 := hide (show LB w v p w.heap.size 99 u.v 36 L v w1 by rw [← hW1]; exact LB.start hC)
  go_enter Tryz.func129, Tryz.ntmps129
  go_wp2_with (first | refine wpW_load_at 36 _ rfl (w.heap.size) (0) (by rfl) (by rfl) _ 36 _ (M1.out.var.at_ 0 (by omega) (fun i hi => by rw [Nat.zero_add])) Tryz.underlying36 rfl infoU ?_ | fail)
  refine (layU_any u hv p v L _ M1.out.cw (by omega)).mono ?_
  rintro e w2 ⟨rfl, v2, hC2, hM2⟩
  go_wp2
  go_end0
  exact ⟨rfl, v2, hC2, M1.out.mw.trans hM2⟩
set_option maxRecDepth 100000 in
set_option maxHeartbeats 400000 in
theorem layU_any' (u : Upd) (hv : validB u = true) (p : Nat) (v : Value) (L : List UInt8) (w : World) (hC : CW w p v (some L)) (hL : L.length ≤ 1000000 + 100000) : Calls Tryz.prog 132 #[.pointer (some ⟨p, 0, none⟩), .agg (tabv u.v 36)] w fun e w' => e = .returned (.tuple #[]) ∧ ∃ v', CW w' p v' (some (L ++ bytesU u)) ∧ Mw p w v w' v' := by
  exact layU_any u hv p v L w hC (by omega)
set_option maxRecDepth 100000 in
set_option maxHeartbeats 40000000 in
theorem lCame_any (x : Int) (ad : Option Addr) (n cap : Nat) (h : Nat → UInt8) (l : List Upd) (hx : idxB x = true) (hn : l.length = n) (h5 : n ≤ 512) (hv : l.all validB = true) (p : Nat) (v : Value) (L : List UInt8) (w : World) (hC : CW w p v (some L)) (hL : L.length ≤ 1000000) (hUm : ∀ w' v', Mw p w v w' v' → Upds w' ad l) : Calls Tryz.prog 161 #[.agg (tabv (Cm.v ⟨x, ⟨ad, n, cap⟩, h⟩) 34), .pointer (some ⟨p, 0, none⟩)] w fun e w' => e = .returned (.tuple #[]) ∧ ∃ v', CW w' p v' (some (L ++ (nb x.toNat 8 ++ (nb n 2 ++ (bytesUs l ++ hl h))))) ∧ Mw p w v w' v' := by
  have HN := hide hn
  have HV := hide hv
  have hni : (n : Int) ≤ 512 := by omega
  obtain ⟨w1, hW1⟩ : ∃ wX, w.alloc (.cells (tabv (Cm.v ⟨x, ⟨ad, n, cap⟩, h⟩) 34) 103) = wX := ⟨_, rfl⟩
  have M1 := hide (show LB w v p w.heap.size 103 (Cm.v ⟨x, ⟨ad, n, cap⟩, h⟩) 34 L v w1 by rw [← hW1]; exact LB.start hC)
  go_enter Tryz.func161, Tryz.ntmps161
  have c1 : w1.cell? ⟨w.heap.size, 0, none⟩ = some (.int .i64 x) := M1.out.var.cell 0 (by omega)
  go_wp2_with fail
  refine (Cu.wI64 x x.toNat (u64_idx hx) p _ (some (L)) _ M1.out.cw (fun l e => by cases e; simp [Cu.nb_length, Cu.hl_length]; omega)).mono ?_
  rintro e w2 ⟨rfl, v2, hCq, hMq⟩
  have hCq : CW w2 p v2 (some (L ++ nb x.toNat 8)) := hCq
  have M2 := hide (M1.out.call hCq hMq)
  clear hCq hMq M1 c1
  have c2 : w2.cell? ⟨w.heap.size, 1, none⟩ = some (.slice ad n cap) := M2.out.var.cell 1 (by omega)
  have KC := hide (conv16 (n : Int) (by omega) (by omega))
  go_wp2_with (first | refine Cu.wpList_conv rfl _ _ _ rfl .i64 .u16 (n : Int) (n : Int) (by rfl) (KC.out _) ?_ | fail)
  refine (Cu.wU16 (n : Int) n rfl p _ (some (L ++ nb x.toNat 8)) _ M2.out.cw (fun l e => by cases e; simp [Cu.nb_length]; omega)).mono ?_
  rintro e w3 ⟨rfl, v3, hCq, hMq⟩
  have hCq : CW w3 p v3 (some ((L ++ nb x.toNat 8) ++ nb n 2)) := hCq
  have M3 := hide (M2.out.call hCq hMq)
  have c3 : w3.cell? ⟨w.heap.size, 1, none⟩ = some (.slice ad n cap) := M3.out.var.cell 1 (by omega)
  clear hCq hMq M2 c2 KC
  obtain ⟨L3, hL3⟩ : ∃ L3, (L ++ nb x.toNat 8) ++ nb n 2 = L3 := ⟨_, rfl⟩
  have hl3 : L3.length ≤ 1000010 := by rw [← hL3]; simp [Cu.nb_length]; omega
  rw [hL3] at M3
  have HL3 : Hid (L ++ (nb x.toNat 8 ++ (nb n 2 ++ (bytesUs l ++ hl h))) = (L3 ++ bytesUs l) ++ hl h) := by show _ = _; rw [← hL3]; simp only [List.append_assoc]
  clear hL3 hx hn hv
  go_wp2
  clear hW1
  go_loopw [19] (fun i wr => ∃ (j : Nat) (vj : Value), j ≤ n ∧ i = .int .i64 (j : Int) ∧ Hid (LB w v p w.heap.size 103 (Cm.v ⟨x, ⟨ad, n, cap⟩, h⟩) 34 (L3 ++ bytesUs (l.take j)) vj wr) ∧ Hid (Upds wr ad l)) (fun i _ => n - (intOf i).toNat)
  case atStart => exact ⟨0, v3, Nat.zero_le _, rfl, (by show LB _ _ _ _ _ _ _ _ _ _; have := M3.out; simpa [bytesUs] using this), (hUm w3 v3 M3.out.mw)⟩
  case round =>
    clear c3 M3
    obtain ⟨j, vj, hj, rfl, MJ, US⟩ := hrel
    by_cases hlt : j < n
    · have hd : decide ((j : Int) < (n : Int)) = true := decide_eq_true (by omega)
      have hd2 : decide (j < n) = true := decide_eq_true hlt
      have hk0 : (0 : Int) ≤ (j : Int) := by omega
      have hk1 : (j : Int) < (n : Int) := by omega
      obtain ⟨s, hs⟩ : ∃ s, l[j]? = some s := ⟨_, List.getElem?_eq_getElem (by rw [HN.out]; exact hlt)⟩
      have hvs : validB s = true := List.all_eq_true.1 HV.out s (List.mem_of_getElem? hs)
      have hvt : (l.take j).all validB = true := List.all_eq_true.2 fun u hu => List.all_eq_true.1 HV.out u (List.mem_of_mem_take hu)
      have hlj : (L3 ++ bytesUs (l.take j)).length ≤ 1000000 + 100000 := by
        have := bytesUs_len hvt
        have := List.length_take_le j l
        rw [List.length_append]
        omega
      obtain ⟨b, o, rfl, hb1, hA⟩ := US.out.get j s hs
      have HS := hide hs
      have HA := hide hA
      obtain ⟨w6, w7, hW6, q6, hW7, q7, b7, b6⟩ := newU2 wr s
      have Q6 := hide q6
      have Q7 := hide q7
      have M7 := hide (MJ.out.low b7)
      clear hs hA hb1 q6 q7 b7 b6 US hvt
      go_wp2_with (first | rw [hW7] | refine wpW_load_at 36 _ rfl (b) (o + j * 36) (by rfl) (by rfl) _ 36 _ (HA.out) Tryz.underlying36 rfl infoU ?_ | refine wpList_storeU rfl _ _ rfl rfl (wr.heap.size) (s) rfl rfl _ Q6.out ?_ | refine wpW_load_at 36 _ rfl (wr.heap.size) (0) (by rfl) (by rfl) _ 36 _ (Q7.out.at_ 0 (by omega) (fun i hi => by rw [Nat.zero_add])) Tryz.underlying36 rfl infoU ?_ | fail)
      refine (layU_any' s hvs p vj (L3 ++ bytesUs (l.take j)) _ M7.out.cw hlj).mono ?_
      rintro e w8 ⟨rfl, v8, hC8, hM8⟩
      have M8 := hide (M7.out.call hC8 hM8)
      clear hC8 hM8 M7 Q6 Q7 hW6 hW7
      go_wp2
      go_roundw
      case rel => exact ⟨j + 1, v8, by omega, by go_num, (by show LB _ _ _ _ _ _ _ _ _ _; rw [bytesUs_next HS.out, ← List.append_assoc]; exact M8.out), hUm w8 v8 M8.out.mw⟩
      case measure => simp [intOf]; omega
    · obtain rfl : j = n := by omega
      have hd : decide ((j : Int) < (j : Int)) = false := by simp
      have M9 : Hid (LB w v p w.heap.size 103 (Cm.v ⟨x, ⟨ad, j, cap⟩, h⟩) 34 (L3 ++ bytesUs l) vj wr) := by show LB _ _ _ _ _ _ _ _ _ _; have := MJ.out; rw [List.take_of_length_le (by rw [HN.out]; exact Nat.le_refl _)] at this; exact this
      have hl9 : (L3 ++ bytesUs l).length ≤ 1000000 + 100000 := by
        have := bytesUs_len HV.out
        rw [List.length_append]
        have := HN.out
        omega
      have aH : Hid (At wr w.heap.size 2 (bv h) 32) := fun i hi => by rw [M9.out.var.cell (2 + i) (by omega)]; exact congrArg some (Cm.v_h _ i hi)
      go_wp2_with (first | refine wpW_load_at 25 _ rfl (w.heap.size) (2) (by rfl) (by rfl) _ 32 _ (aH.out) Tryz.underlying25 rfl info26 ?_ | fail)
      refine (Cu.wHash h p _ (some (L3 ++ bytesUs l)) _ M9.out.cw (fun l e => by cases e; omega)).mono ?_
      rintro e w10 ⟨rfl, v10, hCq, hMq⟩
      have hCq : CW w10 p v10 (some ((L3 ++ bytesUs l) ++ hl h)) := hCq
      have M10 := M9.out.call hCq hMq
      go_wp2
      go_end0
      exact ⟨rfl, v10, by rw [HL3.out]; exact hCq, M10.mw⟩
end Go.Proofs.YtlohfoggcdaeiaaGreat
