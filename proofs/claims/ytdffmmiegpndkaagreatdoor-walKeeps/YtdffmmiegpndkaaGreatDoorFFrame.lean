import Derived.Test.YtdffmmiegpndkaaGreatDoorProg
import Derived.Test.YtdffmmiegpndkaaGreatDoorCrcBits
import Derived.Shelf.Strings.Repeat
import Derived.Shelf.SlGeneric
import Derived.Test.YtdffmmiegpndkaaGreatDoorFMath
/-
  The walks of the leaves: step, Step; halfBytes, byteSteps.
-/
namespace Go.Proofs.YtdffmmiegpndkaaGreatDoor.Fr
open Go.RowKit C
attribute [local go_sem] Num.odd
set_option maxHeartbeats 400000 in
theorem step_any (n : Num) (x : BitVec 32) (w : World) :
    Calls Tryz.prog 113 #[.int .u32 (n.u x)] w fun e w' => e = .returned (.int .u32 (n.u (st x))) ∧ w' = w := by
  have h0 := n.nonneg x
  have h1 := n.lt x
  go_enter Tryz.func113, Tryz.ntmps113
  go_wp2
  all_goals go_ret
  · exact ⟨ret_int (st_true' n x ‹_›), rfl⟩
  · exact ⟨ret_int (st_false' n x ‹_›), rfl⟩
-- left out in this seat: refStep_any
theorem infoHalf (n : Num) (f : Nat → BitVec 32) : (Tryz.prog.info? 145).map (·.size) = some (tab n f 16).size := by rw [tab_size]; kernel_rfl
set_option maxHeartbeats 400000 in
theorem half_any (n : Num) (w : World) :
    Calls Tryz.prog 86 #[] w fun e w' => e = .returned (.agg (tab n (fun i => stN 4 (BitVec.ofNat 32 i)) 16)) ∧ Below w.heap.size w w' := by
  go_enter Tryz.func86, Tryz.ntmps86
  go_wp2
  go_loopw [4] (fun i wr => ∃ k : Nat, k ≤ 16 ∧ i = .int .i64 k ∧ Has n wr (w.heap.size + 1) 145 (upto (fun i => stN 4 (BitVec.ofNat 32 i)) k) 16 ∧ Has n wr w.heap.size 145 (upto (fun _ => 0#32) 0) 16 ∧ Below w.heap.size w wr) (fun i _ => 16 - (intOf i).toNat)
  case atStart =>
    refine ⟨0, by omega, rfl, ?_, ?_, ((Below.refl _ _).alloc (Nat.le_refl _) _).alloc (by simp) _⟩
    · have := Has.new n (w.alloc (.cells #[.int .u32 0, .int .u32 0, .int .u32 0, .int .u32 0, .int .u32 0, .int .u32 0, .int .u32 0, .int .u32 0, .int .u32 0, .int .u32 0, .int .u32 0, .int .u32 0, .int .u32 0, .int .u32 0, .int .u32 0, .int .u32 0] 145)) 145 _ 16 _ (zeros16 n (fun i => stN 4 (BitVec.ofNat 32 i)))
      simpa using this
    · exact (Has.new n w 145 _ 16 _ (zeros16 n _)).old _ (by simp)
  case round =>
    obtain ⟨k, hk, rfl, ht, hz, hb⟩ := hrel
    by_cases hlt : k < 16
    · have hc := ht.cell k hlt
      have hf := ht.frozen k
      have hd : decide ((k : Int) < 16) = true := by simp; omega
      go_wp2
      go_loop [3, 9] (fun x j => ∃ q : Nat, q ≤ 4 ∧ j = .int .i64 q ∧ x = .int .u32 (n.u (stN q (BitVec.ofNat 32 k)))) (fun _ j => 4 - (intOf j).toNat)
      case atStart => exact ⟨0, by omega, rfl, int_eq (n.ofNat k (by omega))⟩
      case round =>
        obtain ⟨q, hq, rfl, rfl⟩ := hrel
        by_cases hl : q < 4
        · go_wp2_with (go_at_call 113; refine (step_any n _ _).mono ?_; rintro e w' ⟨rfl, rfl⟩)
          go_round
          case rel => exact ⟨q + 1, by omega, by go_num, int_eq (by rw [stN_succ])⟩
          case measure => simp [intOf]; omega
        · have hq4 : q = 4 := by omega
          subst hq4
          go_wp2
          go_roundw
          case rel =>
            refine ⟨k + 1, by omega, by go_num, ?_, hz.other _ _ (by simp), hb.setCell (by simp) _⟩
            have := ht.set k (stN 4 (BitVec.ofNat 32 k))
            rw [upd_upto (fun i => stN 4 (BitVec.ofNat 32 i)) k] at this
            exact this
          case measure => simp [intOf]; omega
    · have hk16 : k = 16 := by omega
      subst hk16
      go_wp2_with (first | refine wpList_load_row rfl 145 _ rfl (w.heap.size + 1) rfl 145 _ (0, 0) _ ht Tryz.underlying145 rfl (infoHalf n _) ?_ | refine wpList_store_row rfl 145 _ _ rfl w.heap.size _ rfl rfl 145 _ hz (infoHalf n _) (by rw [tab_size, tab_size]) (tab_one n _ _) ?_)
      exact bodyPost_ret (results_cell_row rfl _ _ w.heap.size 145 _ (0, 0) _ rfl (hz.row _) Tryz.underlying145 rfl (infoHalf n _)) rfl ⟨by rw [tab_full], below_setRow hb (Nat.le_refl _) _⟩
end Go.Proofs.YtdffmmiegpndkaaGreatDoor.Fr
namespace Go.Proofs.YtdffmmiegpndkaaGreatDoor.Fr
open Go.RowKit C
theorem take_snoc (s : ByteArray) (k : Nat) (h : k < s.size) : s.data.toList.take (k + 1) = s.data.toList.take k ++ [s[k]] := by
  rw [List.take_succ_eq_append_getElem (by simpa using h)]; rfl
attribute [local go_sem] Num.xor Num.xor_byte Num.and15 Num.half4
set_option maxHeartbeats 400000 in
theorem turn_any (n : Num) (x : BitVec 32) (s : ByteArray) (w : World) (hs : s.size ≤ maxLen) :
    Calls Tryz.prog 69 #[.int .u32 (n.u x), .string s] w fun e w' => e = .returned (.int .u32 (n.u (tn x s.data.toList))) ∧ Below w.heap.size w w' := by
  unfold maxLen at hs
  go_enter Tryz.func69, Tryz.ntmps69
  go_wp2_with fail
  refine (half_any n _).mono ?_
  rintro e w1 ⟨rfl, hb1⟩
  have hm0 := Has.new n w1 145 _ 16 _ (zeros16 n (fun _ => 0#32))
  have hm1 := hm0.row (fun i => stN 4 (BitVec.ofNat 32 i))
  have hs1 : w.heap.size ≤ w1.heap.size := hb1.size
  go_wp2_with (refine wpList_store_row rfl 145 _ _ rfl w1.heap.size (tab n (fun i => stN 4 (BitVec.ofNat 32 i)) 16) rfl rfl 145 (tab n (upto (fun _ => 0#32) 0) 16) hm0 (infoHalf n _) ((tab_size n _ _).trans (tab_size n _ _).symm) (tab_one n _ _) ?_)
  have hb2 := below_setRow (hb1.alloc hs1 (.cells #[.int .u32 0, .int .u32 0, .int .u32 0, .int .u32 0, .int .u32 0, .int .u32 0, .int .u32 0, .int .u32 0, .int .u32 0, .int .u32 0, .int .u32 0, .int .u32 0, .int .u32 0, .int .u32 0, .int .u32 0, .int .u32 0] 145)) hs1 (tab n (fun i => stN 4 (BitVec.ofNat 32 i)) 16)
  generalize (w1.alloc (.cells #[.int .u32 0, .int .u32 0, .int .u32 0, .int .u32 0, .int .u32 0, .int .u32 0, .int .u32 0, .int .u32 0, .int .u32 0, .int .u32 0, .int .u32 0, .int .u32 0, .int .u32 0, .int .u32 0, .int .u32 0, .int .u32 0] 145)).setRow w1.heap.size (tab n (fun i => stN 4 (BitVec.ofNat 32 i)) 16) = w2 at hm1 hb2 ⊢
  clear hm0
  have hc : ∀ y : BitVec 32, w2.cell? ⟨w1.heap.size, (n.u (y &&& 15#32)).toNat, none⟩ = some (.int .u32 (n.u (stN 4 (y &&& 15#32)))) := by
    intro y
    have h1 := n.low15 y
    have h0 := n.nonneg (y &&& 15#32)
    have := hm1.cell (n.u (y &&& 15#32)).toNat (by omega)
    rw [n.idx] at this
    exact this
  have hl := n.low15
  have hn := n.nonneg
  go_loop [0, 10] (fun y i => ∃ k : Nat, k ≤ s.size ∧ i = .int .i64 k ∧ y = .int .u32 (n.u (tn x (s.data.toList.take k)))) (fun _ i => s.size - (intOf i).toNat)
  case atStart => exact ⟨0, Nat.zero_le _, rfl, rfl⟩
  case round =>
    obtain ⟨k, hk, rfl, rfl⟩ := hrel
    by_cases hlt : k < s.size
    · have HT := hide (take_snoc s k hlt)
      go_wp2
      go_round
      case rel =>
        refine ⟨k + 1, by omega, by go_num, int_eq ?_⟩
        rw [HT.out, tn_append, half_byte, half_byte, two_halves]; rfl
      case measure => simp [intOf]; omega
    · go_wp2
      go_ret
      exact ⟨ret_int (by rw [List.take_of_length_le (by simp; omega)]), hb2⟩
end Go.Proofs.YtdffmmiegpndkaaGreatDoor.Fr
/-
  On, Sum; the document's Sum and On.
-/
namespace Go.Proofs.YtdffmmiegpndkaaGreatDoor.Fr
open Go.RowKit C
attribute [local go_sem] Num.not Num.xor Num.xor_byte
set_option maxHeartbeats 400000 in
theorem on_any (n : Num) (x : BitVec 32) (s : ByteArray) (w : World) (hs : s.size ≤ maxLen) :
    Calls Tryz.prog 44 #[.int .u32 (n.u x), .string s] w fun e w' => e = .returned (.int .u32 (n.u (on x s.data.toList))) ∧ Below w.heap.size w w' := by
  go_enter Tryz.func44, Tryz.ntmps44
  go_wp2_with fail
  refine (turn_any n _ s _ hs).mono ?_
  rintro e w1 ⟨rfl, hb1⟩
  go_wp2
  go_ret
  exact ⟨rfl, hb1⟩
set_option maxHeartbeats 400000 in
theorem sum_any (n : Num) (s : ByteArray) (w : World) (hs : s.size ≤ maxLen) :
    Calls Tryz.prog 45 #[.string s] w fun e w' => e = .returned (.int .u32 (n.u (on 0#32 s.data.toList))) ∧ Below w.heap.size w w' := by
  have h := on_any n 0#32 s w hs
  rw [n.zero] at h
  have H := hide h
  clear h
  go_enter Tryz.func45, Tryz.ntmps45
  go_wp2_with fail
  refine H.out.mono ?_
  rintro e w1 ⟨rfl, hb1⟩
  go_wp2
  go_ret
  exact ⟨rfl, hb1⟩
-- left out in this seat: refOn_any
-- left out in this seat: refSum_any
end Go.Proofs.YtdffmmiegpndkaaGreatDoor.Fr
/-
  DERIVED: THE SHELF's CONTRACTS AT THIS DUMP, IN PLAIN WORDS (tools/lay-plain.mjs out of 'YtdffmmiegpndkaaGreatDoorShelfF0.lean', which tools/lay-shelf.mjs wrote): THE SAME DECLARATIONS UNDER THE SAME NAMES: 'import', 'namespace', 'open', 'def', 'theorem' AND NOTHING ELSE: no command of the shelf's: FOR A HAND-IN. Each laying: the table of numbers ('.._ren') and one theorem, a field a fact of the dump's own or the kernel's comparison; each contract: ONE APPLICATION.
-/
namespace Go.Proofs
open Go.Shelf
def Tryz.laysRepeat_ren : Go.Shelf.Ren := ⟨fun | 105 => 70 | 212 => 87 | 99 => 88 | 165 => 89 | 166 => 90 | 170 => 91 | 169 => 92 | 263 => 114 | 264 => 115 | 206 => 116 | 240 => 117 | 241 => 118 | 276 => 146 | 277 => 147 | n => n, fun | 9 => 9 | 3 => 3 | 4 => 4 | 20 => 20 | 0 => 0 | 46 => 138 | 109 => 147 | 5 => 5 | 72 => 151 | 76 => 134 | 51 => 90 | 146 => 168 | 53 => 123 | 148 => 170 | 70 => 149 | 37 => 86 | 75 => 133 | 127 => 107 | 164 => 196 | 80 => 152 | n => n, fun | n => n⟩
theorem Tryz.laysRepeat : Go.Proofs.Lays.n105 Tryz.prog Tryz.laysRepeat_ren := {
  mixed := by kernel_rfl
  f99 := Tryz.func88.trans (congrArg some (by kernel_rfl))
  f105 := Tryz.func70.trans (congrArg some (by kernel_rfl))
  f165 := Tryz.func89.trans (congrArg some (by kernel_rfl))
  f166 := Tryz.func90.trans (congrArg some (by kernel_rfl))
  f169 := Tryz.func92.trans (congrArg some (by kernel_rfl))
  f170 := Tryz.func91.trans (congrArg some (by kernel_rfl))
  f206 := Tryz.func116.trans (congrArg some (by kernel_rfl))
  f212 := Tryz.func87.trans (congrArg some (by kernel_rfl))
  f240 := Tryz.func117.trans (congrArg some (by kernel_rfl))
  f241 := Tryz.func118.trans (congrArg some (by kernel_rfl))
  f263 := Tryz.func114.trans (congrArg some (by kernel_rfl))
  f264 := Tryz.func115.trans (congrArg some (by kernel_rfl))
  f276 := Tryz.func146.trans (congrArg some (by kernel_rfl))
  f277 := Tryz.func147.trans (congrArg some (by kernel_rfl))
  t0 := Tryz.underlying0
  a0 := Tryz.isAgg0
  z0 := Tryz.sizeOf0
  v0 := Tryz.zeroValue0
  t3 := Tryz.underlying3
  a3 := Tryz.isAgg3
  z3 := Tryz.sizeOf3
  v3 := Tryz.zeroValue3
  t4 := Tryz.underlying4
  a4 := Tryz.isAgg4
  z4 := Tryz.sizeOf4
  v4 := Tryz.zeroValue4
  t5 := Tryz.underlying5
  a5 := Tryz.isAgg5
  z5 := Tryz.sizeOf5
  v5 := Tryz.zeroValue5
  t9 := Tryz.underlying9
  a9 := Tryz.isAgg9
  z9 := Tryz.sizeOf9
  v9 := Tryz.zeroValue9
  t20 := Tryz.underlying20
  a20 := Tryz.isAgg20
  z20 := Tryz.sizeOf20
  v20 := Tryz.zeroValue20
  t37 := Tryz.underlying86
  a37 := Tryz.isAgg86
  z37 := Tryz.sizeOf86
  v37 := Tryz.zeroValue86
  t46 := Tryz.underlying138
  a46 := Tryz.isAgg138
  z46 := Tryz.sizeOf138
  v46 := Tryz.zeroValue138
  t51 := Tryz.underlying90
  a51 := Tryz.isAgg90
  z51 := Tryz.sizeOf90
  v51 := Tryz.zeroValue90
  t53 := Tryz.underlying123
  a53 := Tryz.isAgg123
  z53 := Tryz.sizeOf123
  v53 := Tryz.zeroValue123
  t70 := Tryz.underlying149
  a70 := Tryz.isAgg149
  z70 := Tryz.sizeOf149
  v70 := Tryz.zeroValue149
  t72 := Tryz.underlying151
  a72 := Tryz.isAgg151
  z72 := Tryz.sizeOf151
  v72 := Tryz.zeroValue151
  t75 := Tryz.underlying133
  a75 := Tryz.isAgg133
  z75 := Tryz.sizeOf133
  v75 := Tryz.zeroValue133
  t76 := Tryz.underlying134
  a76 := Tryz.isAgg134
  z76 := Tryz.sizeOf134
  v76 := Tryz.zeroValue134
  t109 := Tryz.underlying147
  a109 := Tryz.isAgg147
  z109 := Tryz.sizeOf147
  v109 := Tryz.zeroValue147
  t127 := Tryz.underlying107
  a127 := Tryz.isAgg107
  z127 := Tryz.sizeOf107
  v127 := Tryz.zeroValue107
  t146 := Tryz.underlying168
  a146 := Tryz.isAgg168
  z146 := Tryz.sizeOf168
  v146 := Tryz.zeroValue168
  t148 := Tryz.underlying170
  a148 := Tryz.isAgg170
  z148 := Tryz.sizeOf170
  v148 := Tryz.zeroValue170
  t164 := Tryz.underlying196
  a164 := Tryz.isAgg196
  z164 := Tryz.sizeOf196
  v164 := Tryz.zeroValue196 }
theorem Tryz.Builder_Extra_105 : Builder.Extra Tryz.prog Tryz.laysRepeat_ren := {
  sizeBuilder := by kernel_rfl
  liesBuilder := by kernel_rfl
  t5 := Tryz.underlying5
  a5 := Tryz.isAgg5
  z5 := Tryz.sizeOf5
  v5 := Tryz.zeroValue5
  infoByte := by kernel_rfl
  cellsByte := by kernel_rfl
  sizeByte := by kernel_rfl
  neB5 := by decide }
end Go.Proofs
/-
  The program's fill.
-/
namespace Go.Proofs.YtdffmmiegpndkaaGreatDoor.Fr
open Go.RowKit C
theorem repeat_any (k : Nat) (w : World) (hk : k ≤ 64) (K : Int) (hK : K = (k : Int)) : Calls Tryz.prog 70 #[.string { data := #[0] }, .int .i64 K] w fun e w' => e = .returned (.string ⟨(List.replicate k 0).toArray⟩) ∧ Below w.heap.size w w' := by
  have h := Any.strings_Repeat Tryz.laysRepeat Tryz.Builder_Extra_105 { data := #[0] } k w (by omega) (by show 1 * k ≤ _; omega)
  have e : Lib.repeatL (ByteArray.mk #[0]).data.toList k = List.replicate k 0 := by
    have := Lib.repeatL_replicate 0 1 k
    rw [Nat.mul_one] at this
    exact this
  rw [e] at h
  rw [hK]
  exact h
set_option maxHeartbeats 1000000 in
theorem fill_any (k : Nat) (w : World) (hk : k ≤ 65536) : Calls Tryz.prog 47 #[.int .i64 ((16 + k : Nat) : Int)] w fun e w' => e = .returned (.string ⟨(fillL k).toArray⟩) ∧ Below w.heap.size w w' := by
  obtain ⟨N, hN⟩ : ∃ N : Int, ((16 + k : Nat) : Int) = N := ⟨_, rfl⟩
  have hr := room_ge k
  have hd : room k = (k + 79) / 64 * 64 := rfl
  rw [hN]
  have h1 : wrap64 (64 - N % 64) = 64 - N % 64 := by unfold wrap64; omega
  have hn0 : 0 ≤ N := by omega
  have hN3 : -(N % 64) % 64 = ((room k - (16 + k) : Nat) : Int) := by omega
  have H3 := hide hN3
  have hN2 : (64 - N % 64) % 64 = ((room k - (16 + k) : Nat) : Int) := by omega
  have hle : room k - (16 + k) ≤ 64 := by omega
  have H2 := hide hN2
  have HL := hide hle
  have hm0 : Int.tmod N 64 = N % 64 := Int.tmod_eq_emod_of_nonneg hn0
  have hm1 : Int.tmod (64 - N % 64) 64 = (64 - N % 64) % 64 := Int.tmod_eq_emod_of_nonneg (by omega)
  clear hN3 hN2 hle hr hd hk hN
  go_enter Tryz.func47, Tryz.ntmps47
  go_wp2_with fail
  refine (repeat_any (room k - (16 + k)) _ HL.out _ ?_).mono ?_
  · first | exact H3.out | exact H2.out
  rintro e w1 ⟨rfl, hb1⟩
  go_wp2
  go_ret
  exact ⟨rfl, hb1⟩
end Go.Proofs.YtdffmmiegpndkaaGreatDoor.Fr
/-
  The program's Frame.
-/
namespace Go.Proofs.YtdffmmiegpndkaaGreatDoor.Fr
open Go.RowKit C
def num32 : Num := ⟨fun b => (b.toNat : Int), fun _ => rfl⟩
theorem crcSum_any (s : ByteArray) (w : World) (hs : s.size ≤ maxLen) (Z : Int) (hZ : Z = ((on 0#32 s.data.toList).toNat : Int)) : Calls Tryz.prog 45 #[.string s] w fun e w' => e = .returned (.int .u32 Z) ∧ Below w.heap.size w w' := by
  rw [hZ]; exact sum_any num32 s w hs
theorem crcOn_any (x : BitVec 32) (s : ByteArray) (w : World) (hs : s.size ≤ maxLen) (X Z : Int) (hX : X = (x.toNat : Int)) (hZ : Z = ((on x s.data.toList).toNat : Int)) : Calls Tryz.prog 44 #[.int .u32 X, .string s] w fun e w' => e = .returned (.int .u32 Z) ∧ Below w.heap.size w w' := by
  rw [hZ, hX]; exact on_any num32 x s w hs
def frameE (X : Int) (p : ByteArray) : Int := if X < 0 then 1 else if 65536 < p.size then 3 else 0
def frameS (X : Int) (p : ByteArray) : ByteArray := if X < 0 then nil8 else if 65536 < p.size then nil8 else ⟨(frameL X.toNat p.data.toList).toArray⟩
theorem wLen_k (p : Nat) (v : Value) (l : List UInt8) (w : World) (h : CW w p v (some l)) (K : Int) (hK : (l.length : Int) = K) :
    Calls Tryz.prog 48 #[.pointer (some ⟨p, 0, none⟩)] w fun e w' => e = .returned (.int .i64 K) ∧ w = w' := by
  rw [← hK]; exact wLen p v (some l) w h
theorem wOut_l (p : Nat) (v : Value) (l : List UInt8) (w : World) (h : CW w p v (some l)) (S : ByteArray) (hS : S = ⟨l.toArray⟩) :
    Calls Tryz.prog 43 #[.pointer (some ⟨p, 0, none⟩)] w fun e w' => e = .returned (.tuple #[.string S, .int .i64 0]) ∧ Below w.heap.size w w' := by
  rw [hS]; exact wOut p v (some l) w h
theorem fill_k (k : Nat) (w : World) (hk : k ≤ 65536) (K : Int) (hK : ((16 + k : Nat) : Int) = K) (S : ByteArray) (hS : S = ⟨(fillL k).toArray⟩) : Calls Tryz.prog 47 #[.int .i64 K] w fun e w' => e = .returned (.string S) ∧ Below w.heap.size w w' := by
  rw [← hK, hS]; exact fill_any k w hk
theorem Mw.sz {p : Nat} {w w' : World} {v v' : Value} (h : Mw p w v w' v') : w.heap.size ≤ w'.heap.size := h.size
set_option maxHeartbeats 1000000 in
theorem frame_ok (m : Nat) (p : ByteArray) (w : World) (hm : m < 9223372036854775808) (hp : p.size ≤ 65536) :
    Calls Tryz.prog 25 #[.int .i64 (m : Int), .string p] w fun e w' => e = .returned (.tuple #[.string ⟨(frameL m p.data.toList).toArray⟩, .int .i64 0]) ∧ Below w.heap.size w w' := by
  have hd : decide ((m : Int) < 0) = false := decide_eq_false (by omega)
  have hd2 : decide ((p.size : Int) > 65536) = false := decide_eq_false (by omega)
  have hd3 : decide ((65536 : Int) < (p.size : Int)) = false := decide_eq_false (by omega)
  have hd4 : decide (65536 < p.size) = false := decide_eq_false (by omega)
  obtain ⟨Z, hZ⟩ : ∃ Z : Int, Z = (p.size : Int) := ⟨_, rfl⟩
  have hc : ∀ w : World, (convert 3 90 (.int .i64 (p.size : Int))).run Tryz.prog w = .ok (.int .u32 Z) w := fun w => by
    have h := run_convert_int (P := Tryz.prog) (w := w) 3 90 .i64 (p.size : Int) (by kernel_rfl) (by kernel_rfl)
    have e2 : IntKind.u32.wrap (p.size : Int) = Z := by rw [hZ, IntKind.wrap_u32']; omega
    rw [show Tryz.prog.intKind 90 = .u32 by kernel_rfl, e2] at h
    exact h
  have HC := hide hc
  have HZ := hide hZ
  have HP := hide hp
  have HM := hide hm
  obtain ⟨M, hM⟩ : ∃ M : Int, M = (m : Int) := ⟨_, rfl⟩
  have HMM := hide hM
  rw [← hM] at hd ⊢
  clear hc hZ hp hm hM
  go_enter Tryz.func25, Tryz.ntmps25
  go_wp2_with fail
  refine (wNew _).mono ?_
  rintro e w1 ⟨rfl, h1, hb1, hs1⟩
  have HS1 := hide hs1
  clear hs1
  go_wp2_with (first | (refine wpList_conv rfl _ _ _ rfl .i64 .u32 _ Z (by rfl) (HC.out _) ?_) | fail)
  refine (wU32 Z p.size HZ.out _ _ _ _ h1 (fun l e => by cases e; simp)).mono ?_
  rintro e w2 ⟨rfl, v2, h2, hM2⟩
  have hI : Hid (IntKind.u64.wrap M = (m : Int)) := by
    show _ = _
    have := HM.out
    rw [HMM.out]; simp [IntKind.wrap, IntKind.bits, IntKind.signed]; omega
  go_wp2_with fail
  refine (wI64 M m hI.out _ _ _ _ h2 (fun l e => by cases e; simp [nb_length])).mono ?_
  rintro e w3 ⟨rfl, v3, h3, hM3⟩
  go_wp2_with fail
  refine (wOut _ _ _ _ h3).mono ?_
  rintro e w4 ⟨rfl, hb4⟩
  have h4 := h3.below hb4
  generalize hHd : outS _ = Hd
  generalize hE0 : outE _ = E0
  have HH : Hid (Hd.data.toList = nb p.size 4 ++ nb m 8) := by
    show _ = _
    rw [← hHd]; simp [outS]
  clear hHd hE0
  obtain ⟨S1, hS1⟩ : ∃ S1 : Int, S1 = ((on 0#32 Hd.data.toList).toNat : Int) := ⟨_, rfl⟩
  obtain ⟨S2, hS2⟩ : ∃ S2 : Int, S2 = ((on (on 0#32 Hd.data.toList) p.data.toList).toNat : Int) := ⟨_, rfl⟩
  have HS1' := hide hS1
  have HS2 := hide hS2
  have HHs : Hid (Hd.size ≤ maxLen) := by
    show _ ≤ _
    rw [← str_len, HH.out, List.length_append, nb_length, nb_length]; unfold maxLen; omega
  have HPs : Hid (p.size ≤ maxLen) := by
    show _ ≤ _
    have := HP.out
    unfold maxLen; omega
  clear hS1 hS2
  go_wp2_with fail
  refine (crcSum_any Hd _ HHs.out S1 HS1'.out).mono ?_
  rintro e w5 ⟨rfl, hb5⟩
  have h5 := h4.below hb5
  go_wp2_with fail
  refine (crcOn_any _ p _ HPs.out S1 S2 HS1'.out HS2.out).mono ?_
  rintro e w6 ⟨rfl, hb6⟩
  have h6 := h5.below hb6
  go_wp2_with fail
  refine (wU32 S2 _ HS2.out _ _ _ _ h6 (fun l e => by cases e; simp [nb_length])).mono ?_
  rintro e w7 ⟨rfl, v7, h7, hM7⟩
  go_wp2_with fail
  refine (wRaw p _ _ _ _ h7 (fun l e => by have := HP.out; cases e; simp [nb_length]; omega)).mono ?_
  rintro e w8 ⟨rfl, v8, h8, hM8⟩
  go_wp2_with fail
  generalize hW4 : nb (BitVec.toNat _) 4 = W4 at h8
  have H8 : Hid (CW w8 w.heap.size v8 (some (nb p.size 4 ++ nb m 8 ++ W4 ++ p.data.toList))) := by
    have := h8
    simp only [Option.map_some, List.nil_append] at this
    exact this
  have HW4 := hide hW4
  obtain ⟨K, hK⟩ : ∃ K : Int, K = ((16 + p.size : Nat) : Int) := ⟨_, rfl⟩
  have HK := hide hK
  obtain ⟨F, hF⟩ : ∃ F : ByteArray, F = ⟨(fillL p.size).toArray⟩ := ⟨_, rfl⟩
  have HF := hide hF
  have HW4l : Hid (W4.length = 4) := by
    show _ = _
    rw [← hW4, nb_length]
  clear hW4 hK hF h8
  refine (wLen_k _ _ _ _ H8.out K (by have := HW4l.out; rw [HK.out]; simp [nb_length, this]; omega)).mono ?_
  rintro e w9 ⟨rfl, hw9⟩
  obtain rfl := hw9
  go_wp2_with fail
  refine (fill_k p.size _ HP.out K HK.out.symm F HF.out).mono ?_
  rintro e w10 ⟨rfl, hb10⟩
  have h10 := H8.out.below hb10
  go_wp2_with fail
  have HFs : Hid (F.size < 64) := by
    show _ < _
    have := room_ge p.size
    rw [← str_len, HF.out]; simp [fillL]; omega
  refine (wRaw F _ _ _ _ h10 (fun l e => by have := HP.out; have := HFs.out; have := HW4l.out; cases e; simp [nb_length, this]; omega)).mono ?_
  rintro e w11 ⟨rfl, v11, h11, hM11⟩
  go_wp2_with fail
  obtain ⟨S, hS⟩ : ∃ S : ByteArray, S = ⟨(nb p.size 4 ++ nb m 8 ++ W4 ++ p.data.toList ++ F.data.toList).toArray⟩ := ⟨_, rfl⟩
  have HSS := hide hS
  clear hS
  refine (wOut_l _ _ _ _ h11 S HSS.out).mono ?_
  rintro e w12 ⟨rfl, hb12⟩
  go_wp2
  go_ret2
  have z1 : w1.heap.size = w.heap.size + 1 := HS1.out
  have q2 : w.heap.size ≤ w2.heap.size := Nat.le_trans hb1.size hM2.size
  have q3 : w.heap.size ≤ w3.heap.size := Nat.le_trans q2 hM3.size
  have q4 : w.heap.size ≤ w4.heap.size := Nat.le_trans q3 hb4.size
  have q5 : w.heap.size ≤ w5.heap.size := Nat.le_trans q4 hb5.size
  have q6 : w.heap.size ≤ w6.heap.size := Nat.le_trans q5 hb6.size
  have q7 : w.heap.size ≤ w7.heap.size := Nat.le_trans q6 hM7.size
  have q8 : w.heap.size ≤ w8.heap.size := Nat.le_trans q7 hM8.size
  have q10 : w.heap.size ≤ w10.heap.size := Nat.le_trans q8 hb10.size
  have q11 : w.heap.size ≤ w11.heap.size := Nat.le_trans q10 hM11.size
  have own : ∀ {wx : World} {vx : Value} {sx : Option (List UInt8)}, CW wx w.heap.size vx sx → ∀ k, vx.ownBlock = some k → w.heap.size ≤ k := fun hx k hk => by have := (hx.own k hk).1; omega
  refine ⟨?_, ?_⟩
  · have e1 : W4 = nb (sumL m p.data.toList) 4 := by
      rw [← HW4.out]
      unfold sumL
      rw [on_append, HH.out, str_len]
    have e2 : nb p.size 4 ++ nb m 8 ++ W4 ++ p.data.toList ++ F.data.toList = frameL m p.data.toList := by
      rw [e1, HF.out]
      unfold frameL
      rw [str_len]
      simp only [List.append_assoc]
    have e3 : S = ⟨(frameL m p.data.toList).toArray⟩ := by rw [HSS.out, e2]
    rw [← e3]
    rfl
  · exact (((((((((((hb1.trans (hM2.below (Nat.le_refl _) hb1.size (own h1))).trans (hM3.below (Nat.le_refl _) q2 (own h2))).trans (hb4.mono q3)).trans (hb5.mono q4)).trans (hb6.mono q5)).trans (hM7.below (Nat.le_refl _) q6 (own h6))).trans (hM8.below (Nat.le_refl _) q7 (own h7))).trans (hb10.mono q8)).trans (hM11.below (Nat.le_refl _) q10 (own h10))).trans (hb12.mono q11)))
set_option maxHeartbeats 1000000 in
theorem frame_any (X : Int) (p : ByteArray) (w : World) (hX : X < 9223372036854775808) :
    Calls Tryz.prog 25 #[.int .i64 X, .string p] w fun e w' => e = .returned (.tuple #[.string (frameS X p), .int .i64 (frameE X p)]) ∧ Below w.heap.size w w' := by
  by_cases h0 : X < 0
  · have e1 : frameS X p = nil8 := by unfold frameS; rw [if_pos h0]
    have e2 : frameE X p = 1 := by unfold frameE; rw [if_pos h0]
    rw [e1, e2]
    have hd : decide (X < 0) = true := decide_eq_true h0
    clear e1 e2 h0 hX
    go_enter Tryz.func25, Tryz.ntmps25
    go_wp2
    go_ret2
    exact ⟨rfl, Below.refl _ _⟩
  · by_cases hp : 65536 < p.size
    · have e1 : frameS X p = nil8 := by unfold frameS; rw [if_neg h0, if_pos hp]
      have e2 : frameE X p = 3 := by unfold frameE; rw [if_neg h0, if_pos hp]
      rw [e1, e2]
      have hd : decide (X < 0) = false := decide_eq_false h0
      have hd2 : decide ((p.size : Int) > 65536) = true := decide_eq_true (by omega)
      have hd3 : decide ((65536 : Int) < (p.size : Int)) = true := decide_eq_true (by omega)
      have hd4 : decide (65536 < p.size) = true := decide_eq_true hp
      clear e1 e2 h0 hX hp
      go_enter Tryz.func25, Tryz.ntmps25
      go_wp2
      go_ret2
      exact ⟨rfl, Below.refl _ _⟩
    · obtain ⟨m, rfl⟩ := Int.eq_ofNat_of_zero_le (show 0 ≤ X by omega)
      have e1 : frameS (m : Int) p = ⟨(frameL m p.data.toList).toArray⟩ := by unfold frameS; rw [if_neg h0, if_neg hp]; rfl
      have e2 : frameE (m : Int) p = 0 := by unfold frameE; rw [if_neg h0, if_neg hp]
      rw [e1, e2]
      exact frame_ok m p w (by omega) (by omega)
end Go.Proofs.YtdffmmiegpndkaaGreatDoor.Fr
