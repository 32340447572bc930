import Derived.Test.YtmmcoedgoekhgaaGreatDoorGSortM
/-
  Open adds in memory; how two of them are compared.
-/
namespace Go.Proofs.YtmmcoedgoekhgaaGreatDoor
set_option maxRecDepth 20000
open Go.RowKit S Go.Shelf Go.Sort
set_option linter.unusedVariables false
set_option linter.unusedSimpArgs false
structure Pen where
  ours : Bool
  id : Int
  amt : Int
  hash : Nat → UInt8
instance : Inhabited Pen := ⟨⟨false, 0, 0, fun _ => 0⟩⟩
def Pen.v (s : Pen) : Nat → Value := fun i => if i = 0 then .bool s.ours else if i = 1 then .int .i64 s.id else if i = 2 then .int .i64 s.amt else .int .u8 ((s.hash (i - 3)).toNat : Int)
def Pen.zero : Pen := ⟨false, 0, 0, fun _ => 0⟩
def Pen.enc (s : Pen) : List Value := (tabv s.v 35).toList
theorem Pen.enc_arr (s : Pen) : s.enc.toArray = tabv s.v 35 := by unfold Pen.enc; rw [Array.toArray_toList]
theorem Pen.enc_len (s : Pen) : s.enc.length = 35 := by unfold Pen.enc; rw [Array.length_toList, tabv_size]
theorem Pen.one (s : Pen) : ∀ u ∈ s.enc, u.oneCell' = true := by
  intro u hu
  unfold Pen.enc tabv at hu
  rw [List.toList_toArray] at hu
  obtain ⟨i, _, rfl⟩ := List.mem_map.1 hu
  unfold Pen.v
  repeat' split
  all_goals rfl
theorem infoP : (Tryz.prog.info? 186).map (·.size) = some 35 := by kernel_rfl
def cmpI (a b : Int) : Int := if a < b then -1 else if b < a then 1 else 0
def cmpP (a b : Pen) : Int := cmpI a.id b.id
theorem cmpP_lt (a b : Pen) : cmpP a b < 0 ↔ a.id < b.id := by 
  unfold cmpP cmpI; split
  · omega
  · split <;> omega
theorem nan_any (a : Int) (w : World) : Calls Tryz.prog 209 #[.int .i64 a] w fun e w' => e = .returned (.bool false) ∧ w' = w := by
  go_enter Tryz.func209, Tryz.ntmps209
  go_wp2
  go_ret
  simp
theorem compare_any (a b : Int) (w : World) : Calls Tryz.prog 188 #[.int .i64 a, .int .i64 b] w fun e w' => e = .returned (.int .i64 (cmpI a b)) ∧ w' = w := by
  by_cases h1 : a < b
  · rw [show cmpI a b = -1 by unfold cmpI; rw [if_pos h1]]
    have hd : decide (a < b) = true := decide_eq_true h1
    go_enter Tryz.func188, Tryz.ntmps188
    go_wp2_with (go_at_call 209; go_must (refine (nan_any _ _).mono ?_); rintro e wx ⟨rfl, hx⟩; obtain rfl := hx.symm; clear hx)
    go_ret
    simp
  · have hd : decide (a < b) = false := decide_eq_false h1
    by_cases h2 : b < a
    · rw [show cmpI a b = 1 by unfold cmpI; rw [if_neg h1, if_pos h2]]
      have hd2 : decide (b < a) = true := decide_eq_true h2
      go_enter Tryz.func188, Tryz.ntmps188
      go_wp2_with (go_at_call 209; go_must (refine (nan_any _ _).mono ?_); rintro e wx ⟨rfl, hx⟩; obtain rfl := hx.symm; clear hx)
      go_ret
      simp
    · rw [show cmpI a b = 0 by unfold cmpI; rw [if_neg h1, if_neg h2]]
      have hd2 : decide (b < a) = false := decide_eq_false h2
      go_enter Tryz.func188, Tryz.ntmps188
      go_wp2_with (go_at_call 209; go_must (refine (nan_any _ _).mono ?_); rintro e wx ⟨rfl, hx⟩; obtain rfl := hx.symm; clear hx)
      go_ret
      simp
set_option maxRecDepth 100000 in
theorem byID_any (x y : Pen) (w : World) : Calls Tryz.prog 187 #[.agg x.enc.toArray, .agg y.enc.toArray] w fun e w' => e = .returned (.int .i64 (cmpP x y)) ∧ ∃ q os, w' = grow (w.drewN q) os := by
  rw [Pen.enc_arr, Pen.enc_arr]
  obtain ⟨w1, hw1⟩ : ∃ w1, w.alloc (.cells (tabv x.v 35) 186) = w1 := ⟨_, rfl⟩
  obtain ⟨w2, hw2⟩ : ∃ w2, w1.alloc (.cells (tabv y.v 35) 186) = w2 := ⟨_, rfl⟩
  have g1 : Has w1 w.heap.size 186 x.v 35 := by rw [← hw1]; exact Has.new w 186 x.v 35 _ rfl
  have g2 : Has w2 w1.heap.size 186 y.v 35 := by rw [← hw2]; exact Has.new w1 186 y.v 35 _ rfl
  have h1 : Has w2 w.heap.size 186 x.v 35 := by rw [← hw2]; exact g1.old _
  have c1 : w2.cell? ⟨w.heap.size, 1, none⟩ = some (.int .i64 x.id) := h1.cell 1 (by omega)
  have c2 : w2.cell? ⟨w1.heap.size, 1, none⟩ = some (.int .i64 y.id) := g2.cell 1 (by omega)
  have hfin : ∃ q os, w2 = grow (w.drewN q) os := ⟨0, #[.cells (tabv x.v 35) 186] ++ #[.cells (tabv y.v 35) 186], by rw [← hw2, ← hw1, alloc_eq_grow, alloc_eq_grow, grow_grow]; rfl⟩
  have HF := hide hfin
  unfold cmpP
  clear g1 g2 h1 hfin
  go_enter Tryz.func187, Tryz.ntmps187
  go_wp2_with (go_at_call 188; go_must (refine (compare_any _ _ _).mono ?_); rintro e wx ⟨rfl, hx⟩; obtain rfl := hx.symm; clear hx)
  go_ret
  exact ⟨rfl, HF.out⟩
end Go.Proofs.YtmmcoedgoekhgaaGreatDoor
/-
  The stable sort's bodies, over a program that has their types alone: its elements' cells under a letter.
-/
namespace Go.Proofs.YtmmcoedgoekhgaaGreatDoor
set_option maxRecDepth 20000
open Go.RowKit S Go.Shelf Go.Sort
set_option linter.unusedVariables false
set_option linter.unusedSimpArgs false
structure PT (P : Program) (k : Nat) : Prop where
  mixed : P.follows .mixedOrders = true
  hk : k = 35
  aE : ∀ w, (isAgg 186).run P w = .ok true w
  zE : ∀ w, (Go.sizeOf 186).run P w = .ok k w
  t0 : P.underlying 0 = some (TypeDesc.tuple #[])
  a0 : ∀ w, (isAgg 0).run P w = .ok false w
  z0 : ∀ w, (Go.sizeOf 0).run P w = .ok 1 w
  v0 : ∀ w, (zeroValue 0).run P w = .ok (Value.tuple #[]) w
  t3 : P.underlying 3 = some (TypeDesc.int IntKind.i64)
  a3 : ∀ w, (isAgg 3).run P w = .ok false w
  z3 : ∀ w, (Go.sizeOf 3).run P w = .ok 1 w
  v3 : ∀ w, (zeroValue 3).run P w = .ok (Value.int IntKind.i64 0) w
  t4 : P.underlying 4 = some (TypeDesc.bool)
  a4 : ∀ w, (isAgg 4).run P w = .ok false w
  z4 : ∀ w, (Go.sizeOf 4).run P w = .ok 1 w
  v4 : ∀ w, (zeroValue 4).run P w = .ok (Value.bool false) w
  tS : P.underlying 141 = some (TypeDesc.slice 186)
  aS : ∀ w, (isAgg 141).run P w = .ok false w
  zS : ∀ w, (Go.sizeOf 141).run P w = .ok 1 w
  vS : ∀ w, (zeroValue 141).run P w = .ok (Value.slice none 0 0) w
  tF : P.underlying 218 = some (TypeDesc.func #[186, 186] #[3] false)
  aF : ∀ w, (isAgg 218).run P w = .ok false w
  zF : ∀ w, (Go.sizeOf 218).run P w = .ok 1 w
  vF : ∀ w, (zeroValue 218).run P w = .ok (Value.nilFunc) w
  tU : P.underlying 170 = some (TypeDesc.int IntKind.u64)
  aU : ∀ w, (isAgg 170).run P w = .ok false w
  zU : ∀ w, (Go.sizeOf 170).run P w = .ok 1 w
  vU : ∀ w, (zeroValue 170).run P w = .ok (Value.int IntKind.u64 0) w
  fIns : P.funcs[215]? = some Tryz.f215
  eIns : ∀ args w, (callFunc 215 args).run P w = .ok (.enter 215 args) w
  fSym : P.funcs[216]? = some Tryz.f216
  eSym : ∀ args w, (callFunc 216 args).run P w = .ok (.enter 216 args) w
  fRot : P.funcs[221]? = some Tryz.f221
  eRot : ∀ args w, (callFunc 221 args).run P w = .ok (.enter 221 args) w
  fSwp : P.funcs[223]? = some Tryz.f223
  eSwp : ∀ args w, (callFunc 223 args).run P w = .ok (.enter 223 args) w
  fSta : P.funcs[208]? = some Tryz.f208
  eSta : ∀ args w, (callFunc 208 args).run P w = .ok (.enter 208 args) w
  eC : ∀ args w, (callFunc 187 args).run P w = .ok (.enter 187 args) w
  cC : ∀ (x y : Pen) (w : World), Calls P 187 #[.agg x.enc.toArray, .agg y.enc.toArray] w fun e w' => e = .returned (.int .i64 (cmpP x y)) ∧ ∃ q os, w' = grow (w.drewN q) os
theorem isAggE (w : World) : (isAgg 186).run Tryz.prog w = .ok true w := by simp [isAgg, run_underlying Tryz.underlying186]
theorem sizeE (w : World) : (Go.sizeOf 186).run Tryz.prog w = .ok 35 w := by
  have h := infoP
  cases hq : Tryz.prog.info? 186 with
  | none => simp [hq] at h
  | some i => simp [hq] at h; simp [sizeOf, typeInfo, hq, h]
theorem sizeT {t : TypeId} {n : Nat} (h : (Tryz.prog.info? t).map (·.size) = some n) (w : World) : (Go.sizeOf t).run Tryz.prog w = .ok n w := by
  cases hq : Tryz.prog.info? t with
  | none => simp [hq] at h
  | some i => simp [hq] at h; simp [sizeOf, typeInfo, hq, h]
theorem zeroT {t : TypeId} {z : Value} (h : (Tryz.prog.info? t).bind (·.zero) = some z) (w : World) : (zeroValue t).run Tryz.prog w = .ok z w := by
  cases hq : Tryz.prog.info? t with
  | none => simp [hq] at h
  | some i => simp [hq] at h; simp [zeroValue, typeInfo, hq, h]
set_option maxRecDepth 100000 in
theorem ptA : PT Tryz.prog 35 where
  mixed := by kernel_rfl
  hk := rfl
  aE := isAggE
  zE := sizeE
  t0 := by kernel_rfl
  a0 := fun w => run_isAgg_plain (d := TypeDesc.tuple #[]) (by kernel_rfl) rfl w
  z0 := fun w => sizeT (by kernel_rfl) w
  v0 := fun w => zeroT (by kernel_rfl) w
  t3 := by kernel_rfl
  a3 := fun w => run_isAgg_plain (d := TypeDesc.int IntKind.i64) (by kernel_rfl) rfl w
  z3 := fun w => sizeT (by kernel_rfl) w
  v3 := fun w => zeroT (by kernel_rfl) w
  t4 := by kernel_rfl
  a4 := fun w => run_isAgg_plain (d := TypeDesc.bool) (by kernel_rfl) rfl w
  z4 := fun w => sizeT (by kernel_rfl) w
  v4 := fun w => zeroT (by kernel_rfl) w
  tS := by kernel_rfl
  aS := fun w => run_isAgg_plain (d := TypeDesc.slice 186) (by kernel_rfl) rfl w
  zS := fun w => sizeT (by kernel_rfl) w
  vS := fun w => zeroT (by kernel_rfl) w
  tF := by kernel_rfl
  aF := fun w => run_isAgg_plain (d := TypeDesc.func #[186, 186] #[3] false) (by kernel_rfl) rfl w
  zF := fun w => sizeT (by kernel_rfl) w
  vF := fun w => zeroT (by kernel_rfl) w
  tU := by kernel_rfl
  aU := fun w => run_isAgg_plain (d := TypeDesc.int IntKind.u64) (by kernel_rfl) rfl w
  zU := fun w => sizeT (by kernel_rfl) w
  vU := fun w => zeroT (by kernel_rfl) w
  fIns := Tryz.func215
  eIns := enters_of Tryz.func215 (by kernel_rfl) rfl
  fSym := Tryz.func216
  eSym := enters_of Tryz.func216 (by kernel_rfl) rfl
  fRot := Tryz.func221
  eRot := enters_of Tryz.func221 (by kernel_rfl) rfl
  fSwp := Tryz.func223
  eSwp := enters_of Tryz.func223 (by kernel_rfl) rfl
  fSta := Tryz.func208
  eSta := enters_of Tryz.func208 (by kernel_rfl) rfl
  eC := enters_of Tryz.func187 (by kernel_rfl) rfl
  cC := byID_any
end Go.Proofs.YtmmcoedgoekhgaaGreatDoor
/-
  The stable sort: two ranges exchanged.
-/
namespace Go.Proofs.YtmmcoedgoekhgaaGreatDoor
set_option maxRecDepth 20000
open Go.RowKit S Go.Shelf Go.Sort
set_option linter.unusedVariables false
set_option linter.unusedSimpArgs false
/-- What the walks over the row know once. -/
abbrev PRow (k : Nat) := RowK (α := Pen) Pen.enc k
abbrev PSW (k : Nat) := SWK (α := Pen) Pen.enc k
theorem PT.len {P : Program} {k : Nat} (L : PT P k) (x : Pen) : x.enc.length = k := by rw [L.hk]; exact x.enc_len
def byID : Value := .func (.func 187) #[] #[]
theorem take_drop_get {α : Type} (l : List α) (i : Nat) (h : i < l.length) : ∃ x, l[i]? = some x ∧ l.drop i = x :: l.drop (i + 1) ∧ l.take (i + 1) = l.take i ++ [x] :=
  ⟨l[i], List.getElem?_eq_getElem h, List.drop_eq_getElem_cons h, List.take_succ_eq_append_getElem h⟩
theorem swapped_next {dk : Array Pen} {X P Z Q Y : List Pen} {i p q : Nat} (h : dk.toList = X ++ (Q.take i ++ (P.drop i ++ (Z ++ (P.take i ++ (Q.drop i ++ Y)))))) (hPQ : P.length = Q.length) (hi : i < P.length) (hp : p = X.length + i) (hq : q = X.length + P.length + Z.length + i) :
    (swp dk p q).toList = X ++ (Q.take (i + 1) ++ (P.drop (i + 1) ++ (Z ++ (P.take (i + 1) ++ (Q.drop (i + 1) ++ Y))))) := by
  obtain ⟨x, hx, dx, tx⟩ := take_drop_get P i hi
  obtain ⟨y, hy, dy, ty⟩ := take_drop_get Q i (by omega)
  have h' : dk.toList = (X ++ Q.take i) ++ (x :: ((P.drop (i + 1) ++ (Z ++ P.take i)) ++ (y :: (Q.drop (i + 1) ++ Y)))) := by
    rw [h, dx, dy]; simp [List.append_assoc]
  rw [swp_list h' p q (by simp; omega) (by simp; omega), tx, ty]
  simp [List.append_assoc]
set_option maxRecDepth 100000 in
set_option maxHeartbeats 4000000 in
theorem swapRange_any (P : Program) (k : Nat) (L : PT P k) (w0 : World) (blk off N cap : Nat) (d0 dk : Array Pen) (hN : d0.size = N) (hz : N ≤ 4000000000000) (R : PRow k w0 blk off d0) (w : World) (S : PSW k w0 blk off dk w) (hs : dk.size = N) (X PP Z Q Y : List Pen) (hl : dk.toList = X ++ (PP ++ (Z ++ (Q ++ Y)))) (hPQ : PP.length = Q.length) (a b n : Nat) (ha : a = X.length) (hb : b = X.length + PP.length + Z.length) (hn : n = PP.length) :
    Calls P 223 #[.slice (some ⟨blk, off, none⟩) N cap, .int .i64 (a : Int), .int .i64 (b : Int), .int .i64 (n : Int), byID] w fun e w' => e = .returned (.tuple #[]) ∧ ∃ dk', PSW k w0 blk off dk' w' ∧ dk'.size = N ∧ dk'.toList = X ++ (Q ++ (Z ++ (PP ++ Y))) := by
  have hlen : N = X.length + (PP.length + (Z.length + (Q.length + Y.length))) := by rw [← hs, size_of hl]; simp
  have S0 : Aside (PSW k w0 blk off dk w) := S
  have HL := hide hl
  have HN := hide hN
  have hbn : b + n ≤ N := by omega
  have han : a + n ≤ N := by omega
  have hab : a + n ≤ b := by omega
  have HA := hide ha
  have HB := hide hb
  have HNn := hide hn
  have HPQ := hide hPQ
  have hs0 := hide hs
  unfold byID
  have mixed := L.mixed; have t0 := L.t0; have a0 := L.a0; have z0 := L.z0; have v0 := L.v0; have t3 := L.t3; have a3 := L.a3; have z3 := L.z3; have v3 := L.v3; have t4 := L.t4; have a4 := L.a4; have z4 := L.z4; have v4 := L.v4; have tS := L.tS; have aS := L.aS; have zS := L.zS; have vS := L.vS; have tF := L.tF; have aF := L.aF; have zF := L.zF; have vF := L.vF; have aE := L.aE; have zE := L.zE; have uS := run_underlying L.tS
  clear S hl hN hs ha hb hPQ hlen
  go_enter L.fSwp, Tryz.ntmps223
  go_wp2
  go_loopg [10] n (fun kx s10 wr => ∃ (i : Nat) (dj : Array Pen), s10 = .int .i64 (i : Int) ∧ i ≤ n ∧ n - i ≤ kx ∧ Aside (PSW k w0 blk off dj wr) ∧ Hid (dj.size = N) ∧ Hid (dj.toList = X ++ (Q.take i ++ (PP.drop i ++ (Z ++ (PP.take i ++ (Q.drop i ++ Y)))))))
  case atStart => exact ⟨0, dk, rfl, Nat.zero_le _, by omega, S0, hs0, by simpa [Hid] using HL.out⟩
  case round =>
    clear S0 hs0
    obtain ⟨i, dj, rfl, hin, hkx, S1, hs1, hl1⟩ := hrel
    by_cases hlt : i < n
    · have hd : decide ((i : Int) < (n : Int)) = true := decide_eq_true (by omega)
      have hd2 : decide (i < n) = true := decide_eq_true hlt
      obtain ⟨p, hp⟩ : ∃ p, a + i = p := ⟨_, rfl⟩
      obtain ⟨q, hq⟩ : ∃ q, b + i = q := ⟨_, rfl⟩
      have ep : (a : Int) + (i : Int) = (p : Int) := by omega
      have eq : (b : Int) + (i : Int) = (q : Int) := by omega
      have rp : IntKind.i64.wrap (p : Int) = (p : Int) := by rw [IntKind.wrap_i64]; omega
      have rq : IntKind.i64.wrap (q : Int) = (q : Int) := by rw [IntKind.wrap_i64]; omega
      have pp : (0 : Int) ≤ (p : Int) := by omega
      have pq : (0 : Int) ≤ (q : Int) := by omega
      have bp : (p : Int) < (N : Int) := by omega
      have bq : (q : Int) < (N : Int) := by omega
      have hpd : p < dj.size := by rw [hs1.out]; omega
      have hqd : q < dj.size := by rw [hs1.out]; omega
      have hNs : dj.size = d0.size := by rw [hs1.out, HN.out]
      have S2 : Aside (PSW k w0 blk off (swp dj p q) ((wr.drew.setCells blk (off + p * k) dj[q]!.enc).setCells blk (off + q * k) dj[p]!.enc)) := S1.out.swapped R p q hpd hqd
      have la := S1.out.ld1 R hNs P p hpd
      have lb := S1.out.ld1 R hNs P q hqd
      have sa := S1.out.st1 R hNs P p hpd dj[q]!
      have sb := S1.out.st2 R hNs P p q hpd hqd dj[q]! dj[p]!
      have na : dj[p]!.enc.length = k := L.len _
      have nb : dj[q]!.enc.length = k := L.len _
      have NX : Hid ((swp dj p q).toList = X ++ (Q.take (i + 1) ++ (PP.drop (i + 1) ++ (Z ++ (PP.take (i + 1) ++ (Q.drop (i + 1) ++ Y)))))) := swapped_next hl1.out HPQ.out (by have := HNn.out; omega) (by have := HA.out; omega) (by have := HB.out; omega)
      have NS : Hid ((swp dj p q).size = N) := by show _ = _; rw [size_swp]; exact hs1.out
      generalize dj[p]!.enc = cI at S2 la sb na
      generalize dj[q]!.enc = cJ at S2 lb sa sb nb
      have HP := hide hp
      have HQ := hide hq
      clear S1 hp hq hpd hqd hNs hl1
      go_wp2_with fail
      go_big_region_o
      clear la lb sa sb
      generalize (wr.drew.setCells blk (off + p * k) cJ).setCells blk (off + q * k) cI = w2 at S2 ⊢
      clear ep eq rp rq
      go_wp2
      go_roundg (n - (i + 1))
      case measure => omega
      case rel => exact ⟨i + 1, swp dj p q, by go_num, by omega, Nat.le_refl _, S2, NS, NX⟩
    · have hd : decide ((i : Int) < (n : Int)) = false := decide_eq_false (by omega)
      have hd2 : decide (i < n) = false := decide_eq_false hlt
      have hi : i = n := by omega
      go_wp2
      go_end0
      refine ⟨rfl, dj, S1.out, hs1.out, ?_⟩
      have e := hl1.out
      rw [hi, HNn.out] at e
      rw [e, List.take_of_length_le (by have := HPQ.out; omega), List.drop_of_length_le (Nat.le_refl _), List.take_length, List.drop_of_length_le (by have := HPQ.out; omega)]
      simp
end Go.Proofs.YtmmcoedgoekhgaaGreatDoor
/-
  The stable sort: two neighbours exchanged as wholes (printed by gen_rot.py).
-/
namespace Go.Proofs.YtmmcoedgoekhgaaGreatDoor
set_option maxRecDepth 20000
open Go.RowKit S Go.Shelf Go.Sort
set_option linter.unusedVariables false
set_option linter.unusedSimpArgs false
theorem td_app {α : Type} (l : List α) (j : Nat) (Y : List α) : l.take j ++ (l.drop j ++ Y) = l ++ Y := by rw [← List.append_assoc, List.take_append_drop]
set_option maxRecDepth 100000 in
set_option maxHeartbeats 4000000 in
theorem rotate_any (P : Program) (k : Nat) (L : PT P k) (w0 : World) (blk off N cap : Nat) (d0 dk : Array Pen) (hN : d0.size = N) (hz : N ≤ 4000000000000) (R : PRow k w0 blk off d0) (w : World) (S : PSW k w0 blk off dk w) (hs : dk.size = N) (X A B Y : List Pen) (hl : dk.toList = X ++ (A ++ (B ++ Y))) (a m b : Nat) (ha : a = X.length) (hm : m = X.length + A.length) (hb : b = X.length + A.length + B.length) (h1 : 1 ≤ A.length) (h2 : 1 ≤ B.length) :
    Calls P 221 #[.slice (some ⟨blk, off, none⟩) N cap, .int .i64 (a : Int), .int .i64 (m : Int), .int .i64 (b : Int), byID] w fun e w' => e = .returned (.tuple #[]) ∧ ∃ dk', PSW k w0 blk off dk' w' ∧ dk'.size = N ∧ dk'.toList = X ++ (B ++ (A ++ Y)) := by
  have hlen : N = X.length + (A.length + (B.length + Y.length)) := by rw [← hs, size_of hl]; simp
  have CALL := hide (swapRange_any P k L w0 blk off N cap d0 · hN hz R)
  have S0 : Aside (PSW k w0 blk off dk w) := S
  have HL := hide hl
  have hs0 := hide hs
  obtain ⟨i0, hi0⟩ : ∃ i, A.length = i := ⟨_, rfl⟩
  obtain ⟨j0, hj0⟩ : ∃ j, B.length = j := ⟨_, rfl⟩
  have e1 : (m : Int) - (a : Int) = (i0 : Int) := by omega
  have e2 : (b : Int) - (m : Int) = (j0 : Int) := by omega
  have r1 : IntKind.i64.wrap (i0 : Int) = (i0 : Int) := by rw [IntKind.wrap_i64]; omega
  have r2 : IntKind.i64.wrap (j0 : Int) = (j0 : Int) := by rw [IntKind.wrap_i64]; omega
  have hij : i0 + j0 ≤ N := by omega
  have hmN : m + j0 ≤ N := by omega
  have HX : Hid (X.length + i0 = m) := by show _ = _; omega
  have mixed := L.mixed; have t0 := L.t0; have a0 := L.a0; have z0 := L.z0; have v0 := L.v0; have t3 := L.t3; have a3 := L.a3; have z3 := L.z3; have v3 := L.v3; have t4 := L.t4; have a4 := L.a4; have z4 := L.z4; have v4 := L.v4; have tS := L.tS; have aS := L.aS; have zS := L.zS; have vS := L.vS; have tF := L.tF; have aF := L.aF; have zF := L.zF; have vF := L.vF; have tU := L.tU; have aU := L.aU; have zU := L.zU; have vU := L.vU; have aE := L.aE; have zE := L.zE; have uS := run_underlying L.tS; have eIns := L.eIns; have eSym := L.eSym; have eRot := L.eRot; have eSwp := L.eSwp; have eSta := L.eSta; have eC := L.eC
  clear S hl hs ha hb hlen hm
  have HT := hide (show X ++ (B ++ (A ++ Y)) = X ++ (B ++ (A ++ Y)) from rfl)
  generalize hTg : X ++ (B ++ (A ++ Y)) = Tg at HT ⊢
  have HTg := hide hTg
  clear HT hTg
  go_enter L.fRot, Tryz.ntmps221
  go_wp2
  go_loopg [10, 11] (i0 + j0) (fun kx s10 s11 wr => ∃ (i j : Nat) (dj : Array Pen) (X U V Y : List Pen), s10 = .int .i64 (i : Int) ∧ s11 = .int .i64 (j : Int) ∧ 1 ≤ i ∧ 1 ≤ j ∧ i + j ≤ kx ∧ m + j ≤ N ∧ Hid (X.length + i = m) ∧ Hid (U.length = i) ∧ Hid (V.length = j) ∧ Aside (PSW k w0 blk off dj wr) ∧ Hid (dj.size = N) ∧ Hid (dj.toList = X ++ (U ++ (V ++ Y))) ∧ Hid (X ++ (V ++ (U ++ Y)) = Tg))
  case atStart => exact ⟨i0, j0, dk, X, A, B, Y, rfl, rfl, by omega, by omega, by omega, by omega, HX, hi0, hj0, S0, hs0, HL, HTg⟩
  case round =>
    clear S0 hs0 HX HL HTg e1 e2 r1 r2 hi0 hj0 h1 h2 hij hmN
    obtain ⟨i, j, dj, X, U, V, Y, rfl, rfl, h1, h2, hkx, hmN, HX, HU, HV, S1, hs1, hl1, ht1⟩ := hrel
    obtain ⟨p, hp⟩ : ∃ p, X.length = p := ⟨_, rfl⟩
    have hpi : p + i = m := by have := HX.out; omega
    have ep : (m : Int) - (i : Int) = (p : Int) := by omega
    have rp : IntKind.i64.wrap (p : Int) = (p : Int) := by rw [IntKind.wrap_i64]; omega
    have HP := hide hp
    clear hp
    by_cases hne : i = j
    · subst hne
      have C := CALL.out dj _ S1.out hs1.out X U [] V Y (by rw [hl1.out]; simp) (by rw [HU.out, HV.out]) p m i HP.out.symm (by have := HX.out; have := HU.out; simp; omega) HU.out.symm
      have HC := hide C
      have hd : ((i : Int) != (i : Int)) = false := by simp
      have hd2 : decide ((i : Int) ≠ (i : Int)) = false := by simp
      clear C CALL
      unfold byID at HC ⊢
      go_wp2_with fail
      refine HC.out.mono ?_
      rintro e w2 ⟨rfl, dk2, S2, hs2, hl2⟩
      go_wp2
      go_end0
      exact ⟨rfl, dk2, S2, hs2, by rw [hl2, ← ht1.out]; simp⟩
    · have hd : ((i : Int) != (j : Int)) = true := by simp; omega
      have hd2 : decide ((i : Int) ≠ (j : Int)) = true := by simp; omega
      by_cases hgt : j < i
      · have hg : decide ((j : Int) < (i : Int)) = true := decide_eq_true (by omega)
        have hg2 : decide (j < i) = true := decide_eq_true hgt
        have C := CALL.out dj _ S1.out hs1.out X (U.take j) (U.drop j) V Y (by rw [hl1.out, td_app]) (by rw [List.length_take, HU.out, HV.out]; omega) p m j HP.out.symm (by have := HX.out; have := HU.out; rw [List.length_take, List.length_drop]; omega) (by rw [List.length_take, HU.out]; omega)
        have HC := hide C
        obtain ⟨i', hi'⟩ : ∃ i', i - j = i' := ⟨_, rfl⟩
        have ei : (i : Int) - (j : Int) = (i' : Int) := by omega
        have ri : IntKind.i64.wrap (i' : Int) = (i' : Int) := by rw [IntKind.wrap_i64]; omega
        clear C
        unfold byID at HC ⊢
        go_wp2_with fail
        refine HC.out.mono ?_
        rintro e w2 ⟨rfl, dk2, S2, hs2, hl2⟩
        have S2' : Aside (PSW k w0 blk off dk2 w2) := S2
        clear S2
        go_wp2
        go_roundg (i' + j)
        case measure => omega
        case rel => exact ⟨i', j, dk2, X ++ V, U.drop j, U.take j, Y, by first | rfl | go_num, rfl, by omega, by omega, Nat.le_refl _, by omega, by show _ = _; rw [List.length_append, HV.out]; have := HX.out; omega, by show _ = _; rw [List.length_drop, HU.out]; exact hi', by show _ = _; rw [List.length_take, HU.out]; omega, S2', hs2, by show _ = _; rw [hl2]; simp [List.append_assoc], by show _ = _; rw [← ht1.out, td_app, List.append_assoc]⟩
      · have hg : decide ((j : Int) < (i : Int)) = false := decide_eq_false (by omega)
        have hg2 : decide (j < i) = false := decide_eq_false hgt
        obtain ⟨j', hj'⟩ : ∃ j', j - i = j' := ⟨_, rfl⟩
        obtain ⟨q, hq⟩ : ∃ q, m + j = q := ⟨_, rfl⟩
        obtain ⟨q', hq'⟩ : ∃ q', m + j - i = q' := ⟨_, rfl⟩
        have eq : (m : Int) + (j : Int) = (q : Int) := by omega
        have rq : IntKind.i64.wrap (q : Int) = (q : Int) := by rw [IntKind.wrap_i64]; omega
        have eq' : (q : Int) - (i : Int) = (q' : Int) := by omega
        have rq' : IntKind.i64.wrap (q' : Int) = (q' : Int) := by rw [IntKind.wrap_i64]; omega
        have ej : (j : Int) - (i : Int) = (j' : Int) := by omega
        have rj : IntKind.i64.wrap (j' : Int) = (j' : Int) := by rw [IntKind.wrap_i64]; omega
        have C := CALL.out dj _ S1.out hs1.out X U (V.take j') (V.drop j') Y (by rw [hl1.out, td_app]) (by rw [List.length_drop, HU.out, HV.out]; omega) p q' i HP.out.symm (by have := HX.out; rw [List.length_take, HV.out, HU.out]; omega) HU.out.symm
        have HC := hide C
        clear C
        unfold byID at HC ⊢
        go_wp2_with fail
        refine HC.out.mono ?_
        rintro e w2 ⟨rfl, dk2, S2, hs2, hl2⟩
        have S2' : Aside (PSW k w0 blk off dk2 w2) := S2
        clear S2
        go_wp2
        go_roundg (i + j')
        case measure => omega
        case rel => exact ⟨i, j', dk2, X, V.drop j', V.take j', U ++ Y, rfl, by first | rfl | go_num, by omega, by omega, Nat.le_refl _, by omega, HX, by show _ = _; rw [List.length_drop, HV.out]; omega, by show _ = _; rw [List.length_take, HV.out]; omega, S2', hs2, by show _ = _; rw [hl2], by show _ = _; rw [← ht1.out, td_app]⟩
end Go.Proofs.YtmmcoedgoekhgaaGreatDoor
