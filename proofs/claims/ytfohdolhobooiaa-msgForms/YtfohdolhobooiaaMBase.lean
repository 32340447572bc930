/-
  MESSAGES: plain, and in memory (printed by gen_m1.py).
-/
import Derived.Test.YtfohdolhobooiaaUMath
namespace Go.Proofs.Ytfohdolhobooiaa
open Go.RowKit S
set_option linter.unusedVariables false
set_option linter.unusedSimpArgs false
structure Msg where
  kind : Int
  id : Int
  amt : Int
  idx : Int
  nxt : Int
  hash : Nat → UInt8
  sec : Nat → UInt8
  note : ByteArray
def z32 : Nat → UInt8 := fun _ => 0
def Msg.v (s : Msg) : Nat → Value := fun i => if i = 0 then .int .i64 s.kind else if i = 1 then .int .i64 s.id else if i = 2 then .int .i64 s.amt else if i = 3 then .int .i64 s.idx else if i = 4 then .int .i64 s.nxt else if i < 37 then .int .u8 ((s.hash (i - 5)).toNat : Int) else if i < 69 then .int .u8 ((s.sec (i - 37)).toNat : Int) else .string s.note
def Msg.zero : Msg := ⟨0, 0, 0, 0, 0, z32, z32, nilB⟩
theorem Msg.v_kind (s : Msg) : s.v 0 = .int .i64 s.kind := rfl
theorem Msg.v_id (s : Msg) : s.v 1 = .int .i64 s.id := rfl
theorem Msg.v_amt (s : Msg) : s.v 2 = .int .i64 s.amt := rfl
theorem Msg.v_idx (s : Msg) : s.v 3 = .int .i64 s.idx := rfl
theorem Msg.v_nxt (s : Msg) : s.v 4 = .int .i64 s.nxt := rfl
theorem Msg.v_note (s : Msg) : s.v 69 = .string s.note := rfl
theorem Msg.v_hash (s : Msg) (i : Nat) (hi : i < 32) : s.v (5 + i) = bv s.hash i := by
  unfold Msg.v bv
  rw [if_neg (by omega), if_neg (by omega), if_neg (by omega), if_neg (by omega), if_neg (by omega), if_pos (by omega), show 5 + i - 5 = i by omega]
theorem Msg.v_sec (s : Msg) (i : Nat) (hi : i < 32) : s.v (37 + i) = bv s.sec i := by
  unfold Msg.v bv
  rw [if_neg (by omega), if_neg (by omega), if_neg (by omega), if_neg (by omega), if_neg (by omega), if_neg (by omega), if_pos (by omega), show 37 + i - 37 = i by omega]
theorem oneM (s : Msg) (i : Nat) : (s.v i).oneCell' = true := by
  unfold Msg.v
  repeat' split
  all_goals rfl
theorem infoM : (Try.prog.info? 25).map (·.size) = some 70 := by kernel_rfl
def eqM (s t : Msg) : Bool := (s.kind == t.kind) && ((s.id == t.id) && ((s.amt == t.amt) && ((s.idx == t.idx) && ((s.nxt == t.nxt) && (eqH s.hash t.hash && (eqH s.sec t.sec && (s.note.toList == t.note.toList)))))))
theorem eqM_refl (s : Msg) : eqM s s = true := by unfold eqM; rw [eqH_refl, eqH_refl]; simp
theorem eqM_iff (s t : Msg) : eqM s t = true ↔ s.kind = t.kind ∧ s.id = t.id ∧ s.amt = t.amt ∧ s.idx = t.idx ∧ s.nxt = t.nxt ∧ eqH s.hash t.hash = true ∧ eqH s.sec t.sec = true ∧ s.note = t.note := by
  unfold eqM
  simp only [Bool.and_eq_true, beq_iff_eq, ByteArray.toList_eq]
  constructor
  · rintro ⟨a, b, c, d, e, f, g, h⟩
    exact ⟨a, b, c, d, e, f, g, by first | exact h | exact ByteArray.ext (Array.ext' h)⟩
  · rintro ⟨a, b, c, d, e, f, g, h⟩
    exact ⟨a, b, c, d, e, f, g, by rw [h]⟩
theorem fieldsMsg : (Try.prog.fieldsOf 25).toList.map (fun f => (f.name, f.type, f.offset)) = [("Kind", 3, 0), ("ID", 2, 1), ("Amount", 2, 2), ("Index", 2, 3), ("Next", 2, 4), ("Hash", 23, 5), ("Secret", 23, 37), ("Note", 9, 69)] := by kernel_rfl
theorem partHash_M (w : World) (s : Msg) : (part 23 (tabv s.v 70) 5).run Try.prog w = .ok (.agg (tabv (bv s.hash) 32)) w := by
  have hi : (Try.prog.info? 23).map (·.size) = some 32 := by kernel_rfl
  cases hq : Try.prog.info? 23 with
  | none => simp [hq] at hi
  | some i =>
    have hs : i.size = 32 := by simpa [hq] using hi
    have e : (tabv s.v 70).extract 5 37 = tabv (bv s.hash) 32 := by
      refine tabv_ext _ _ _ (by simp [tabv_size]) fun i hi => ?_
      rw [Array.getElem?_extract, tabv_get _ _ _ (by omega)]
      simp only [tabv_size]
      rw [if_pos (by omega), Msg.v_hash s i hi]
    simp [part, isAgg, run_underlying Try.underlying23, sizeOf, typeInfo, hq, hs, e]
theorem partSec_M (w : World) (s : Msg) : (part 23 (tabv s.v 70) 37).run Try.prog w = .ok (.agg (tabv (bv s.sec) 32)) w := by
  have hi : (Try.prog.info? 23).map (·.size) = some 32 := by kernel_rfl
  cases hq : Try.prog.info? 23 with
  | none => simp [hq] at hi
  | some i =>
    have hs : i.size = 32 := by simpa [hq] using hi
    have e : (tabv s.v 70).extract 37 69 = tabv (bv s.sec) 32 := by
      refine tabv_ext _ _ _ (by simp [tabv_size]) fun i hi => ?_
      rw [Array.getElem?_extract, tabv_get _ _ _ (by omega)]
      simp only [tabv_size]
      rw [if_pos (by omega), Msg.v_sec s i hi]
    simp [part, isAgg, run_underlying Try.underlying23, sizeOf, typeInfo, hq, hs, e]
set_option maxRecDepth 100000 in
set_option maxHeartbeats 4000000 in
theorem eqMD (w : World) (s t : Msg) : (Op.equalIn 10000 25 (.agg (tabv s.v 70)) (.agg (tabv t.v 70))).run Try.prog w = .ok (eqM s t) w := by
  rw [run_equalIn_struct w 9999 25 _ _ (by kernel_rfl) (by kernel_rfl)]
  have hf := fieldsMsg
  generalize (Try.prog.fieldsOf 25).toList = fs at hf
  rcases fs with _ | ⟨f0, _ | ⟨f1, _ | ⟨f2, _ | ⟨f3, _ | ⟨f4, _ | ⟨f5, _ | ⟨f6, _ | ⟨f7, _ | ⟨f8, fs⟩⟩⟩⟩⟩⟩⟩⟩⟩
  · simp at hf
  · simp at hf
  · simp at hf
  · simp at hf
  · simp at hf
  · simp at hf
  · simp at hf
  · simp at hf
  · simp only [List.map_cons, List.map_nil, List.cons.injEq, Prod.mk.injEq, and_true] at hf
    obtain ⟨⟨n0, t0, o0⟩, ⟨n1, t1, o1⟩, ⟨n2, t2, o2⟩, ⟨n3, t3, o3⟩, ⟨n4, t4, o4⟩, ⟨n5, t5, o5⟩, ⟨n6, t6, o6⟩, n7, t7, o7⟩ := hf
    have p0 : ∀ s : Msg, (part 3 (tabv s.v 70) 0).run Try.prog w = .ok (.int .i64 s.kind) w := fun s => by simp [part, isAgg, run_underlying Try.underlying3, tabv_get _ _ _ (show 0 < 70 by omega), Msg.v_kind]
    have p1 : ∀ s : Msg, (part 2 (tabv s.v 70) 1).run Try.prog w = .ok (.int .i64 s.id) w := fun s => by simp [part, isAgg, run_underlying Try.underlying2, tabv_get _ _ _ (show 1 < 70 by omega), Msg.v_id]
    have p2 : ∀ s : Msg, (part 2 (tabv s.v 70) 2).run Try.prog w = .ok (.int .i64 s.amt) w := fun s => by simp [part, isAgg, run_underlying Try.underlying2, tabv_get _ _ _ (show 2 < 70 by omega), Msg.v_amt]
    have p3 : ∀ s : Msg, (part 2 (tabv s.v 70) 3).run Try.prog w = .ok (.int .i64 s.idx) w := fun s => by simp [part, isAgg, run_underlying Try.underlying2, tabv_get _ _ _ (show 3 < 70 by omega), Msg.v_idx]
    have p4 : ∀ s : Msg, (part 2 (tabv s.v 70) 4).run Try.prog w = .ok (.int .i64 s.nxt) w := fun s => by simp [part, isAgg, run_underlying Try.underlying2, tabv_get _ _ _ (show 4 < 70 by omega), Msg.v_nxt]
    have p7 : ∀ s : Msg, (part 9 (tabv s.v 70) 69).run Try.prog w = .ok (.string s.note) w := fun s => by simp [part, isAgg, run_underlying Try.underlying9, tabv_get _ _ _ (show 69 < 70 by omega), Msg.v_note]
    have q0 : (Op.equalIn 9999 3 (.int .i64 s.kind) (.int .i64 t.kind)).run Try.prog w = .ok (s.kind == t.kind) w := run_equalIn_int w 9998 3 .i64 .i64 _ _ Try.underlying3
    have q1 : (Op.equalIn 9999 2 (.int .i64 s.id) (.int .i64 t.id)).run Try.prog w = .ok (s.id == t.id) w := run_equalIn_int w 9998 2 .i64 .i64 _ _ Try.underlying2
    have q2 : (Op.equalIn 9999 2 (.int .i64 s.amt) (.int .i64 t.amt)).run Try.prog w = .ok (s.amt == t.amt) w := run_equalIn_int w 9998 2 .i64 .i64 _ _ Try.underlying2
    have q3 : (Op.equalIn 9999 2 (.int .i64 s.idx) (.int .i64 t.idx)).run Try.prog w = .ok (s.idx == t.idx) w := run_equalIn_int w 9998 2 .i64 .i64 _ _ Try.underlying2
    have q4 : (Op.equalIn 9999 2 (.int .i64 s.nxt) (.int .i64 t.nxt)).run Try.prog w = .ok (s.nxt == t.nxt) w := run_equalIn_int w 9998 2 .i64 .i64 _ _ Try.underlying2
    have q5 : (Op.equalIn 9999 23 (.agg (tabv (bv s.hash) 32)) (.agg (tabv (bv t.hash) 32))).run Try.prog w = .ok (eqH s.hash t.hash) w := eqHD 9997 w _ _
    have q6 : (Op.equalIn 9999 23 (.agg (tabv (bv s.sec) 32)) (.agg (tabv (bv t.sec) 32))).run Try.prog w = .ok (eqH s.sec t.sec) w := eqHD 9997 w _ _
    have q7 : (Op.equalIn 9999 9 (.string s.note) (.string t.note)).run Try.prog w = .ok (s.note.toList == t.note.toList) w := run_equalIn_string _ 9998 9 _ _ Try.underlying9
    have m0 : f0.name ≠ "_" := by rw [n0]; decide
    have m1 : f1.name ≠ "_" := by rw [n1]; decide
    have m2 : f2.name ≠ "_" := by rw [n2]; decide
    have m3 : f3.name ≠ "_" := by rw [n3]; decide
    have m4 : f4.name ≠ "_" := by rw [n4]; decide
    have m5 : f5.name ≠ "_" := by rw [n5]; decide
    have m6 : f6.name ≠ "_" := by rw [n6]; decide
    have m7 : f7.name ≠ "_" := by rw [n7]; decide
    simp only [Op.eqFields, if_pos m0, if_pos m1, if_pos m2, if_pos m3, if_pos m4, if_pos m5, if_pos m6, if_pos m7, t0, t1, t2, t3, t4, t5, t6, t7, o0, o1, o2, o3, o4, o5, o6, o7, Sem.run_bind, p0, p1, p2, p3, p4, p7, partHash_M, partSec_M, q0, q1, q2, q3, q4, q5, q6, q7, Result.andThen_ok]
    unfold eqM
    generalize (s.kind == t.kind) = b0 at *
    generalize (s.id == t.id) = b1 at *
    generalize (s.amt == t.amt) = b2 at *
    generalize (s.idx == t.idx) = b3 at *
    generalize (s.nxt == t.nxt) = b4 at *
    generalize eqH s.hash t.hash = b5 at *
    generalize eqH s.sec t.sec = b6 at *
    generalize (s.note.toList == t.note.toList) = b7 at *
    cases b0
    · simp
    cases b1
    · simp [p1, q1]
    cases b2
    · simp [p1, p2, q1, q2]
    cases b3
    · simp [p1, p2, p3, q1, q2, q3]
    cases b4
    · simp [p1, p2, p3, p4, q1, q2, q3, q4]
    cases b5
    · simp [p1, p2, p3, p4, q1, q2, q3, q4, partHash_M, q5]
    cases b6
    · simp [p1, p2, p3, p4, q1, q2, q3, q4, partHash_M, q5, partSec_M, q6]
    cases b7 <;> simp [p1, p2, p3, p4, q1, q2, q3, q4, partHash_M, q5, partSec_M, q6, p7, q7]
  · simp at hf
theorem guardM : Try.prog.eqGuardType Try.prog.depth 25 = false := by kernel_rfl
end Go.Proofs.Ytfohdolhobooiaa
