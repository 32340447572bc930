/-
  The walk of CursorHalves.
-/
import Derived.Test.YtmcnempkddahcaaWant
namespace Go.Proofs.Ytmcnempkddahcaa
open Go.RowKit
theorem wrap_u (k : IntKind) (b : Nat) (hs : k.signed = false) (hb : k.bits = b) (n : Nat) : k.wrap (n : Int) = ((n % 2 ^ b : Nat) : Int) := by
  simp only [IntKind.wrap, hs, hb]; simp
theorem wrap_back (x : Nat) (hx : x < 18446744073709551616) : IntKind.u64.wrap (IntKind.i64.wrap (x : Int)) = (x : Int) := by
  simp [IntKind.wrap, IntKind.bits, IntKind.signed]; omega
theorem divp (x m : Nat) : (x : Int) / (2 : Int) ^ m = ((x / 2 ^ m : Nat) : Int) := by simp
theorem orp (a b i : Nat) (ha : a < 18446744073709551616) (hb : b < 2 ^ i) (hi : i ≤ 64) (hm : a % 2 ^ i = 0) : bits .or .u64 (a : Int) (b : Int) = ((a + b : Nat) : Int) := by
  have h64 : (2 : Int) ^ (8 * 8) = 18446744073709551616 := by decide
  have hb2 : b < 18446744073709551616 := Nat.lt_of_lt_of_le hb (by have : 2 ^ i ≤ 2 ^ 64 := Nat.pow_le_pow_right (by decide) hi; omega)
  rw [bits_join .u64 (8 * 8) (by decide) (wrap_in .u64 8 rfl rfl) i _ _ (by omega) (by
    have : ((a % 2 ^ i : Nat) : Int) = (a : Int) % (2 : Int) ^ i := by simp
    rw [← this, hm]; rfl) (by rw [h64]; omega) (by omega) (by
    have : ((2 ^ i : Nat) : Int) = (2 : Int) ^ i := by simp
    rw [← this]; omega) (by rw [h64]; omega), Int.natCast_add]
theorem nb16 (x m : Nat) (hm : 0 < m) (hm4 : m ≤ 4) : nb (x / 2 ^ (16 * m)) (2 * (4 - m)) ++ nb (x / 2 ^ (16 * (m - 1)) % 65536) 2 = nb (x / 2 ^ (16 * (m - 1))) (2 * (4 - (m - 1))) := by
  rw [show 2 * (4 - (m - 1)) = 2 * (4 - m) + 2 by omega, nb_add, Nat.div_div_eq_div_mul]
  have e : 2 ^ (16 * (m - 1)) * 256 ^ 2 = 2 ^ (16 * m) := by rw [← pow8, ← Nat.pow_add]; congr 1; omega
  rw [e, nb_mod (x / 2 ^ (16 * (m - 1)) % 65536) 2 (x / 2 ^ (16 * (m - 1))) (by omega)]
theorem nb8 (x m : Nat) (hm : 0 < m) (hm4 : m ≤ 8) : nb (x / 2 ^ (8 * m)) (8 - m) ++ nb (x / 2 ^ (8 * (m - 1)) % 256) 1 = nb (x / 2 ^ (8 * (m - 1))) (8 - (m - 1)) := by
  rw [show 8 - (m - 1) = (8 - m) + 1 by omega, nb_add, Nat.div_div_eq_div_mul]
  have e : 2 ^ (8 * (m - 1)) * 256 ^ 1 = 2 ^ (8 * m) := by rw [← pow8, ← Nat.pow_add]; congr 1; omega
  rw [e, nb_mod (x / 2 ^ (8 * (m - 1)) % 256) 1 (x / 2 ^ (8 * (m - 1))) (by omega)]
theorem nb32 (x : Nat) : nb (x / 4294967296) 4 ++ nb (x % 4294967296) 4 = nb x 8 := by
  rw [show (8 : Nat) = 4 + 4 from rfl, nb_add, nb_mod (x % 4294967296) 4 x (by omega)]

set_option maxRecDepth 5000 in
set_option maxHeartbeats 8000000 in
theorem cursorHalves_num (V : Int) (x : Nat) (hV : V = (x : Int)) (hx : x < 18446744073709551616) (s : ByteArray) (hs : s.size ≤ 140737488351232) (w : World) :
    Calls Try.prog 4 #[.int .u64 V, .string s] w fun e w' => e = .returned (.bool true) ∧ Below w.heap.size w w' := by
  obtain ⟨E, hE⟩ : ∃ E, ofL (nb x 8) = E := ⟨_, rfl⟩
  obtain ⟨b, hb⟩ : ∃ b, ofL (s.data.toList ++ nb x 8) = b := ⟨_, rfl⟩
  have hbs : b.size = s.size + 8 := by rw [← hb, ofL_size, List.length_append, nb_length, str_len]
  have hq1 : ((b.size : Int) != (s.size : Int) + 8) = false := by rw [hbs]; simp
  have hx1 : b.extract 0 s.size = s := by rw [← hb, ofL_extract, ← str_len, List.take_left, List.drop_zero, ofL_of]
  have hx2 : b.extract s.size b.size = E := by rw [hbs, ← hb, ofL_extract, List.take_of_length_le (by simp [nb_length]), ← str_len, List.drop_left, hE]
  have hsb0 : (0 : Int) ≤ (s.size : Int) := by omega
  have hsb1 : (s.size : Int) ≤ (b.size : Int) := by omega
  have HO : Hid (outS (some (s.data.toList ++ nb x 8)) = b) := hb
  have HE : Hid (outE (some (s.data.toList ++ nb x 8)) = 0) := rfl
  obtain ⟨z, hz⟩ : ∃ z : Int, IntKind.i64.wrap V = z := ⟨_, rfl⟩
  obtain ⟨z2, hz2⟩ : ∃ z2 : Int, ((x / 4294967296 : Nat) : Int) = z2 := ⟨_, rfl⟩
  obtain ⟨z3, hz3⟩ : ∃ z3 : Int, ((x % 4294967296 : Nat) : Int) = z3 := ⟨_, rfl⟩
  have HC1 : Hid (∀ w : World, (convert 37 2 (.int .u64 V)).run Try.prog w = .ok (.int .i64 z) w) := fun w => run_conv 37 2 .u64 .i64 V z (by kernel_rfl) (by kernel_rfl) (by kernel_rfl) hz w
  have HZ1 : Hid (IntKind.u64.wrap z = (x : Int)) := by show _ = _; rw [← hz, hV, wrap_back x hx]
  have HC2 : Hid (∀ w : World, (binOp .shr 37 (.int .u64 V) (.int .u64 32)).run Try.prog w = .ok (.int .u64 z2) w) := fun w => run_shr 37 .u64 .u64 V 32 z2 32 rfl (by decide) (by rw [hV, divp, ← hz2]) w
  have HC3 : Hid (∀ w : World, (convert 37 42 (.int .u64 z2)).run Try.prog w = .ok (.int .u32 z2) w) := fun w => run_conv 37 42 .u64 .u32 z2 z2 (by kernel_rfl) (by kernel_rfl) (by kernel_rfl) (by rw [← hz2, wrap_u .u32 32 rfl rfl, Nat.mod_eq_of_lt (by omega)]) w
  have HC4 : Hid (∀ w : World, (convert 37 42 (.int .u64 V)).run Try.prog w = .ok (.int .u32 z3) w) := fun w => run_conv 37 42 .u64 .u32 V z3 (by kernel_rfl) (by kernel_rfl) (by kernel_rfl) (by rw [hV, wrap_u .u32 32 rfl rfl, ← hz3]) w
  obtain ⟨H, hH⟩ : ∃ H : Int, ((x / 4294967296 : Nat) : Int) = H := ⟨_, rfl⟩
  obtain ⟨M, hM⟩ : ∃ M : Int, ((x / 65536 % 65536 : Nat) : Int) = M := ⟨_, rfl⟩
  obtain ⟨N, hN⟩ : ∃ N : Int, ((x / 256 % 256 : Nat) : Int) = N := ⟨_, rfl⟩
  obtain ⟨O, hOo⟩ : ∃ O : Int, ((x % 256 : Nat) : Int) = O := ⟨_, rfl⟩
  obtain ⟨Z1, hZ1⟩ : ∃ Z1 : Int, ((x / 4294967296 * 4294967296 : Nat) : Int) = Z1 := ⟨_, rfl⟩
  obtain ⟨Z2, hZ2⟩ : ∃ Z2 : Int, ((x / 65536 % 65536 * 65536 : Nat) : Int) = Z2 := ⟨_, rfl⟩
  obtain ⟨Z3, hZ3⟩ : ∃ Z3 : Int, ((x / 4294967296 * 4294967296 + x / 65536 % 65536 * 65536 : Nat) : Int) = Z3 := ⟨_, rfl⟩
  obtain ⟨Z4, hZ4⟩ : ∃ Z4 : Int, ((x / 256 % 256 * 256 : Nat) : Int) = Z4 := ⟨_, rfl⟩
  obtain ⟨Z5, hZ5⟩ : ∃ Z5 : Int, ((x / 4294967296 * 4294967296 + x / 65536 % 65536 * 65536 + x / 256 % 256 * 256 : Nat) : Int) = Z5 := ⟨_, rfl⟩
  have G1 : Hid (∀ w : World, (convert 42 37 (.int .u32 H)).run Try.prog w = .ok (.int .u64 H) w) := fun w => run_conv 42 37 .u32 .u64 H H (by kernel_rfl) (by kernel_rfl) (by kernel_rfl) (by rw [← hH, wrap_u .u64 64 rfl rfl, Nat.mod_eq_of_lt (by omega)]) w
  have G2 : Hid (∀ w : World, (binOp .shl 37 (.int .u64 H) (.int .u64 32)).run Try.prog w = .ok (.int .u64 Z1) w) := fun w => run_shl 37 .u64 .u64 H 32 Z1 32 rfl (by decide) (by rw [← hH, ← hZ1, show (2 : Int) ^ 32 = ((4294967296 : Nat) : Int) from rfl, ← Int.natCast_mul, wrap_u .u64 64 rfl rfl, Nat.mod_eq_of_lt (by omega)]) w
  have G3 : Hid (∀ w : World, (convert 45 37 (.int .u16 M)).run Try.prog w = .ok (.int .u64 M) w) := fun w => run_conv 45 37 .u16 .u64 M M (by kernel_rfl) (by kernel_rfl) (by kernel_rfl) (by rw [← hM, wrap_u .u64 64 rfl rfl, Nat.mod_eq_of_lt (by omega)]) w
  have G4 : Hid (∀ w : World, (binOp .shl 37 (.int .u64 M) (.int .u64 16)).run Try.prog w = .ok (.int .u64 Z2) w) := fun w => run_shl 37 .u64 .u64 M 16 Z2 16 rfl (by decide) (by rw [← hM, ← hZ2, show (2 : Int) ^ 16 = ((65536 : Nat) : Int) from rfl, ← Int.natCast_mul, wrap_u .u64 64 rfl rfl, Nat.mod_eq_of_lt (by omega)]) w
  have G5 : Hid (∀ w : World, (binOp .or 37 (.int .u64 Z1) (.int .u64 Z2)).run Try.prog w = .ok (.int .u64 Z3) w) := fun w => run_or 37 .u64 Z1 Z2 Z3 (by rw [← hZ1, ← hZ2, orp _ _ 32 (by omega) (by omega) (by decide) (by omega), ← hZ3]) w
  have G6 : Hid (∀ w : World, (convert 5 37 (.int .u8 N)).run Try.prog w = .ok (.int .u64 N) w) := fun w => run_conv 5 37 .u8 .u64 N N (by kernel_rfl) (by kernel_rfl) (by kernel_rfl) (by rw [← hN, wrap_u .u64 64 rfl rfl, Nat.mod_eq_of_lt (by omega)]) w
  have G7 : Hid (∀ w : World, (binOp .shl 37 (.int .u64 N) (.int .u64 8)).run Try.prog w = .ok (.int .u64 Z4) w) := fun w => run_shl 37 .u64 .u64 N 8 Z4 8 rfl (by decide) (by rw [← hN, ← hZ4, show (2 : Int) ^ 8 = ((256 : Nat) : Int) from rfl, ← Int.natCast_mul, wrap_u .u64 64 rfl rfl, Nat.mod_eq_of_lt (by omega)]) w
  have G8 : Hid (∀ w : World, (binOp .or 37 (.int .u64 Z3) (.int .u64 Z4)).run Try.prog w = .ok (.int .u64 Z5) w) := fun w => run_or 37 .u64 Z3 Z4 Z5 (by rw [← hZ3, ← hZ4, orp _ _ 16 (by omega) (by omega) (by decide) (by omega), ← hZ5]) w
  have G9 : Hid (∀ w : World, (convert 5 37 (.int .u8 O)).run Try.prog w = .ok (.int .u64 O) w) := fun w => run_conv 5 37 .u8 .u64 O O (by kernel_rfl) (by kernel_rfl) (by kernel_rfl) (by rw [← hOo, wrap_u .u64 64 rfl rfl, Nat.mod_eq_of_lt (by omega)]) w
  have G10 : Hid (∀ w : World, (binOp .or 37 (.int .u64 Z5) (.int .u64 O)).run Try.prog w = .ok (.int .u64 V) w) := fun w => run_or 37 .u64 Z5 O V (by rw [← hZ5, ← hOo, orp _ _ 8 (by omega) (by omega) (by decide) (by omega), hV, show x / 4294967296 * 4294967296 + x / 65536 % 65536 * 65536 + x / 256 % 256 * 256 + x % 256 = x by omega]) w
  have e84 : nb x 8 = nb (x / 4294967296) 4 ++ nb x 4 := nb_add x 4 4
  have e42 : nb x 4 = nb (x / 65536) 2 ++ nb x 2 := nb_add x 2 2
  have e21 : nb x 2 = nb (x / 256) 1 ++ nb x 1 := nb_add x 1 1
  have e10 : nb x 1 = nb x 1 ++ [] := (List.append_nil _).symm
  have e80 : nb x 8 = nb x 8 ++ [] := (List.append_nil _).symm
  have T1 : Hid (((be (takeA 4 (E, 0)).data.toList : Nat) : Int) = H) := by show _ = _; rw [← hE, e84, ← hH]; exact congrArg (fun n : Nat => (n : Int)) ((num_nb (x / 4294967296) 4 _).trans (Nat.mod_eq_of_lt (by omega)))
  have U1 : Hid (takeS 4 (E, 0) = (ofL (nb x 4), 0)) := by show _ = _; rw [← hE, e84]; exact takeS_head _ _ 4 (by rw [nb_length]; rfl)
  have T2 : Hid (((be (takeA 2 (ofL (nb x 4), 0)).data.toList : Nat) : Int) = M) := by show _ = _; rw [e42, ← hM]; exact congrArg (fun n : Nat => (n : Int)) (num_nb (x / 65536) 2 _)
  have U2 : Hid (takeS 2 (ofL (nb x 4), 0) = (ofL (nb x 2), 0)) := by show _ = _; rw [e42]; exact takeS_head _ _ 2 (by rw [nb_length]; rfl)
  have T3 : Hid (((be (takeA 1 (ofL (nb x 2), 0)).data.toList : Nat) : Int) = N) := by show _ = _; rw [e21, ← hN]; exact congrArg (fun n : Nat => (n : Int)) (num_nb (x / 256) 1 _)
  have U3 : Hid (takeS 1 (ofL (nb x 2), 0) = (ofL (nb x 1), 0)) := by show _ = _; rw [e21]; exact takeS_head _ _ 1 (by rw [nb_length]; rfl)
  have T4 : Hid (((be (takeA 1 (ofL (nb x 1), 0)).data.toList : Nat) : Int) = O) := by show _ = _; rw [e10, ← hOo]; exact congrArg (fun n : Nat => (n : Int)) (num_nb x 1 _)
  have U4 : Hid (takeS 1 (ofL (nb x 1), 0) = (nil8, 0)) := by show _ = _; rw [e10]; exact takeS_head _ _ 1 (by rw [nb_length]; rfl)
  have T5 : Hid (IntKind.i64.wrap (num 8 (E, 0) : Int) = z) := by
    show _ = _
    rw [← hE, e80, ← hz, hV]
    exact congrArg (fun n : Nat => IntKind.i64.wrap (n : Int)) ((num_nb x 8 _).trans (Nat.mod_eq_of_lt (by omega)))
  have U5 : Hid (takeS 8 (E, 0) = (nil8, 0)) := by show _ = _; rw [← hE, e80]; exact takeS_head _ _ 8 (by rw [nb_length]; rfl)
  have HD0 : Hid (doneS (nil8, 0) = 0) := rfl
  clear hH hM hN hOo hZ1 hZ2 hZ3 hZ4 hZ5 e84 e42 e21 e10 e80
  have HZ2 := hide hz2.symm
  have HZ3 := hide hz3.symm
  have HV := hide hV
  have HS := hide hs
  have HX := hide hx
  have HEE := hide hE
  clear hV hx hz2 hz3 hz hE hb hbs
  go_enter Try.func4, Try.ntmps4
  go_wp2_with fail
  refine (head_any _).mono ?_
  rintro e w1 ⟨rfl, hb1⟩
  go_wp2
  go_loopw [5, 6] (fun o i wr => ∃ k : Nat, k ≤ 5 ∧ i = .int .i64 (k : Int) ∧ StrsO wr w.heap.size o (List.replicate k E) ∧ Below w.heap.size w wr) (fun _ i _ => 5 - (intOf i).toNat)
  case atStart => exact ⟨0, by omega, rfl, StrsO.nil _ _, hb1⟩
  case round =>
    obtain ⟨k, hk, rfl, hO, kb⟩ := hrel
    have hpr : w.heap.size ≤ wr.heap.size := kb.size
    rcases (show k = 0 ∨ k = 1 ∨ k = 2 ∨ k = 3 ∨ k = 4 ∨ k = 5 by omega) with rfl | rfl | rfl | rfl | rfl | rfl
    · go_wp2_with fail
      refine (wNew _).mono ?_
      rintro e w2 ⟨rfl, hW2, hb2, hz2⟩
      have HO2 := hide (hO.below hb2)
      have KB2 := hide (kb.trans (hb2.mono kb.size))
      obtain ⟨p, hp⟩ : ∃ p, wr.heap.size = p := ⟨_, rfl⟩
      have HOp : Hid (∀ g, u5.ownBlock = some g → g < p) := fun g hg => by have := (hO.block g hg).2; omega
      have HP : Hid (w.heap.size ≤ p) := by show _ ≤ _; omega
      rw [hp] at hW2 ⊢
      clear hb2 hz2 hp hO kb hpr
      go_wp2_with fail
      refine (wRaw s p _ _ _ hW2 (fun l e => by cases e; have := HS.out; simp; omega)).mono ?_
      rintro e w3 ⟨rfl, v3, hW3', hM3⟩
      have hW3 : CW w3 p v3 (some s.data.toList) := hW3'
      clear hW2 hW3'
      go_wp2_with fail
      refine (wU64 V x HV.out p _ _ _ hW3 (fun l e => by cases e; have := HS.out; rw [str_len]; omega)).mono ?_
      rintro e w8 ⟨rfl, v8, hW8, hM8⟩
      have hW9 : CW w8 p v8 (some (s.data.toList ++ nb x 8)) := hW8
      have hMM := hM3.trans hM8
      have hO8 := HO2.out.same (fun g hg => hMM.block g (by have := HO2.out.block g hg; omega) (fun e => by have := HOp.out g hg; omega) (by simp [Value.ownBlock]))
      have kb8 := KB2.out.trans (hMM.below (B := w.heap.size) HP.out KB2.out.size (by simp [Value.ownBlock]))
      clear hMM hM3 hM8
      go_wp2_with fail
      refine (wOut p _ _ _ hW9).mono ?_
      rintro e w9 ⟨rfl, hb9⟩
      rw [HO.out, HE.out]
      have hO9 := hO8.below hb9
      have kb9 := kb8.trans (hb9.mono kb8.size)
      have HSZ := hide kb9.size
      clear hO8 kb8 hb9
      go_wp2_with (at_builtin; refine wpList_append_one rfl _ _ rfl w.heap.size _ (List.replicate 0 E) E (by rfl) hO9 (by rfl) rfl (by simp) HSZ.out ?_; intro g cap w10 hO10 hgr)
      go_roundw
      case rel =>
        have hbl : Below w.heap.size w w10 := kb9.trans (grown_below (B := w.heap.size) hgr (fun k hk => (hO9.block k hk).1) kb9.size)
        refine ⟨0 + 1, by omega, rfl, ?_, hbl⟩
        rw [← List.replicate_succ'] at hO10
        exact hO10
      case measure => simp [intOf]
    · go_wp2_with fail
      refine (wNew _).mono ?_
      rintro e w2 ⟨rfl, hW2, hb2, hz2⟩
      have HO2 := hide (hO.below hb2)
      have KB2 := hide (kb.trans (hb2.mono kb.size))
      obtain ⟨p, hp⟩ : ∃ p, wr.heap.size = p := ⟨_, rfl⟩
      have HOp : Hid (∀ g, u5.ownBlock = some g → g < p) := fun g hg => by have := (hO.block g hg).2; omega
      have HP : Hid (w.heap.size ≤ p) := by show _ ≤ _; omega
      rw [hp] at hW2 ⊢
      clear hb2 hz2 hp hO kb hpr
      go_wp2_with fail
      refine (wRaw s p _ _ _ hW2 (fun l e => by cases e; have := HS.out; simp; omega)).mono ?_
      rintro e w3 ⟨rfl, v3, hW3', hM3⟩
      have hW3 : CW w3 p v3 (some s.data.toList) := hW3'
      clear hW2 hW3'
      go_wp2_with (first | (refine wpW_conv _ _ _ rfl (.int .u64 V) (.int .i64 z) (by rfl) (by rfl) (HC1.out _) ?_) | fail)
      refine (wI64 z x HZ1.out p _ _ _ hW3 (fun l e => by cases e; have := HS.out; rw [str_len]; omega)).mono ?_
      rintro e w8 ⟨rfl, v8, hW8, hM8⟩
      have hW9 : CW w8 p v8 (some (s.data.toList ++ nb x 8)) := hW8
      have hMM := hM3.trans hM8
      have hO8 := HO2.out.same (fun g hg => hMM.block g (by have := HO2.out.block g hg; omega) (fun e => by have := HOp.out g hg; omega) (by simp [Value.ownBlock]))
      have kb8 := KB2.out.trans (hMM.below (B := w.heap.size) HP.out KB2.out.size (by simp [Value.ownBlock]))
      clear hMM hM3 hM8
      go_wp2_with fail
      refine (wOut p _ _ _ hW9).mono ?_
      rintro e w9 ⟨rfl, hb9⟩
      rw [HO.out, HE.out]
      have hO9 := hO8.below hb9
      have kb9 := kb8.trans (hb9.mono kb8.size)
      have HSZ := hide kb9.size
      clear hO8 kb8 hb9
      go_wp2_with (at_builtin; refine wpList_append_one rfl _ _ rfl w.heap.size _ (List.replicate 1 E) E (by rfl) hO9 (by rfl) rfl (by simp) HSZ.out ?_; intro g cap w10 hO10 hgr)
      go_roundw
      case rel =>
        have hbl : Below w.heap.size w w10 := kb9.trans (grown_below (B := w.heap.size) hgr (fun k hk => (hO9.block k hk).1) kb9.size)
        refine ⟨1 + 1, by omega, rfl, ?_, hbl⟩
        rw [← List.replicate_succ'] at hO10
        exact hO10
      case measure => simp [intOf]
    · go_wp2_with fail
      refine (wNew _).mono ?_
      rintro e w2 ⟨rfl, hW2, hb2, hz2⟩
      have HO2 := hide (hO.below hb2)
      have KB2 := hide (kb.trans (hb2.mono kb.size))
      obtain ⟨p, hp⟩ : ∃ p, wr.heap.size = p := ⟨_, rfl⟩
      have HOp : Hid (∀ g, u5.ownBlock = some g → g < p) := fun g hg => by have := (hO.block g hg).2; omega
      have HP : Hid (w.heap.size ≤ p) := by show _ ≤ _; omega
      rw [hp] at hW2 ⊢
      clear hb2 hz2 hp hO kb hpr
      go_wp2_with fail
      refine (wRaw s p _ _ _ hW2 (fun l e => by cases e; have := HS.out; simp; omega)).mono ?_
      rintro e w3 ⟨rfl, v3, hW3', hM3⟩
      have hW3 : CW w3 p v3 (some s.data.toList) := hW3'
      clear hW2 hW3'
      go_wp2_with (first | (refine wpW_bin .shr _ _ _ _ rfl (.int .u64 V) (.int .u64 32) (.int .u64 z2) (by rfl) (by rfl) (by rfl) rfl (HC2.out _) ?_) | (refine wpW_conv _ _ _ rfl (.int .u64 z2) (.int .u32 z2) (by rfl) (by rfl) (HC3.out _) ?_) | fail)
      refine (wU32 z2 (x / 4294967296) HZ2.out p _ _ _ hW3 (fun l e => by cases e; have := HS.out; rw [str_len]; omega)).mono ?_
      rintro e w7 ⟨rfl, v7, hW7', hM7⟩
      have hW7 : CW w7 p v7 (some (s.data.toList ++ nb (x / 4294967296) 4)) := hW7'
      clear hW7'
      go_wp2_with (first | (refine wpW_conv _ _ _ rfl (.int .u64 V) (.int .u32 z3) (by rfl) (by rfl) (HC4.out _) ?_) | fail)
      refine (wU32 z3 (x % 4294967296) HZ3.out p _ _ _ hW7 (fun l e => by cases e; have := HS.out; rw [List.length_append, nb_length, str_len]; omega)).mono ?_
      rintro e w8 ⟨rfl, v8, hW8', hM8'⟩
      have hW9 : CW w8 p v8 (some (s.data.toList ++ nb x 8)) := by
        simp only [Option.map_some, List.append_assoc, nb32] at hW8'
        exact hW8'
      have hM8 := hM7.trans hM8'
      clear hW7 hM7 hW8' hM8'
      have hMM := hM3.trans hM8
      have hO8 := HO2.out.same (fun g hg => hMM.block g (by have := HO2.out.block g hg; omega) (fun e => by have := HOp.out g hg; omega) (by simp [Value.ownBlock]))
      have kb8 := KB2.out.trans (hMM.below (B := w.heap.size) HP.out KB2.out.size (by simp [Value.ownBlock]))
      clear hMM hM3 hM8
      go_wp2_with fail
      refine (wOut p _ _ _ hW9).mono ?_
      rintro e w9 ⟨rfl, hb9⟩
      rw [HO.out, HE.out]
      have hO9 := hO8.below hb9
      have kb9 := kb8.trans (hb9.mono kb8.size)
      have HSZ := hide kb9.size
      clear hO8 kb8 hb9
      go_wp2_with (at_builtin; refine wpList_append_one rfl _ _ rfl w.heap.size _ (List.replicate 2 E) E (by rfl) hO9 (by rfl) rfl (by simp) HSZ.out ?_; intro g cap w10 hO10 hgr)
      go_roundw
      case rel =>
        have hbl : Below w.heap.size w w10 := kb9.trans (grown_below (B := w.heap.size) hgr (fun k hk => (hO9.block k hk).1) kb9.size)
        refine ⟨2 + 1, by omega, rfl, ?_, hbl⟩
        rw [← List.replicate_succ'] at hO10
        exact hO10
      case measure => simp [intOf]
    · go_wp2_with fail
      refine (wNew _).mono ?_
      rintro e w2 ⟨rfl, hW2, hb2, hz2⟩
      have HO2 := hide (hO.below hb2)
      have KB2 := hide (kb.trans (hb2.mono kb.size))
      obtain ⟨p, hp⟩ : ∃ p, wr.heap.size = p := ⟨_, rfl⟩
      have HOp : Hid (∀ g, u5.ownBlock = some g → g < p) := fun g hg => by have := (hO.block g hg).2; omega
      have HP : Hid (w.heap.size ≤ p) := by show _ ≤ _; omega
      rw [hp] at hW2 ⊢
      clear hb2 hz2 hp hO kb hpr
      go_wp2_with fail
      refine (wRaw s p _ _ _ hW2 (fun l e => by cases e; have := HS.out; simp; omega)).mono ?_
      rintro e w3 ⟨rfl, v3, hW3', hM3⟩
      have hW3 : CW w3 p v3 (some s.data.toList) := hW3'
      clear hW2 hW3'
      go_wp2
      go_loopw [8] (fun i wi => ∃ m : Nat, m ≤ 4 ∧ i = .int .i64 ((m : Int) - 1) ∧ ∃ vi, CW wi p vi (some (s.data.toList ++ nb (x / 2 ^ (16 * m)) (2 * (4 - m)))) ∧ Mw p w3 v3 wi vi) (fun i _ => (intOf i + 1).toNat)
      case atStart => exact ⟨4, by omega, rfl, v3, by rw [show nb (x / 2 ^ (16 * 4)) (2 * (4 - 4)) = [] from rfl, List.append_nil]; exact hW3, Mw.refl _ _ _⟩
      case round =>
        obtain ⟨m, hm, rfl, vi, hWi, hMi⟩ := hrel
        by_cases hm0 : 0 < m
        · obtain ⟨I, hI⟩ : ∃ I : Int, (m : Int) - 1 = I := ⟨_, rfl⟩
          obtain ⟨J, hJ⟩ : ∃ J : Int, 16 * I = J := ⟨_, rfl⟩
          obtain ⟨Z, hZ⟩ : ∃ Z : Int, V / (2 : Int) ^ (16 * (m - 1)) = Z := ⟨_, rfl⟩
          obtain ⟨C, hC⟩ : ∃ C : Int, ((x / 2 ^ (16 * (m - 1)) % 65536 : Nat) : Int) = C := ⟨_, rfl⟩
          have hZ' : Z = ((x / 2 ^ (16 * (m - 1)) : Nat) : Int) := by rw [← hZ, HV.out, divp]
          have K1 : Hid (∀ w : World, (convert 3 43 (.int .i64 I)).run Try.prog w = .ok (.int .u64 I) w) := fun w => run_conv 3 43 .i64 .u64 I I (by kernel_rfl) (by kernel_rfl) (by kernel_rfl) (by
            obtain ⟨i, rfl⟩ := Int.eq_ofNat_of_zero_le (show 0 ≤ I by omega)
            rw [wrap_u .u64 64 rfl rfl, Nat.mod_eq_of_lt (by omega)]) w
          have K2 : Hid (∀ w : World, (binOp .mul 43 (.int .u64 16) (.int .u64 I)).run Try.prog w = .ok (.int .u64 J) w) := fun w => run_mul 43 .u64 16 I J (by
            obtain ⟨j, rfl⟩ := Int.eq_ofNat_of_zero_le (show 0 ≤ J by omega)
            rw [hJ, wrap_u .u64 64 rfl rfl, Nat.mod_eq_of_lt (by omega)]) w
          have K3 : Hid (∀ w : World, (binOp .shr 37 (.int .u64 V) (.int .u64 J)).run Try.prog w = .ok (.int .u64 Z) w) := fun w => run_shr 37 .u64 .u64 V J Z (16 * (m - 1)) (by omega) (by show _ ≤ 64; omega) hZ w
          have K4 : Hid (∀ w : World, (convert 37 45 (.int .u64 Z)).run Try.prog w = .ok (.int .u16 C) w) := fun w => run_conv 37 45 .u64 .u16 Z C (by kernel_rfl) (by kernel_rfl) (by kernel_rfl) (by rw [hZ', wrap_u .u16 16 rfl rfl, ← hC]) w
          have HCC := hide hC.symm
          have hd : decide (I ≥ 0) = true := decide_eq_true (by omega)
          have hd2 : (0 : Int) ≤ I := by omega
          have hd3 : I ≤ 8 := by omega
          have HI := hide hI
          rw [hI]
          clear hI hJ hZ hC hZ'
          go_wp2_with (first | (refine wpW_conv _ _ _ rfl (.int .i64 I) (.int .u64 I) (by rfl) (by rfl) (K1.out _) ?_) | (refine wpW_bin .mul _ _ _ _ rfl (.int .u64 16) (.int .u64 I) (.int .u64 J) (by rfl) (by rfl) (by rfl) rfl (K2.out _) ?_) | (refine wpW_bin .shr _ _ _ _ rfl (.int .u64 V) (.int .u64 J) (.int .u64 Z) (by rfl) (by rfl) (by rfl) rfl (K3.out _) ?_) | (refine wpW_conv _ _ _ rfl (.int .u64 Z) (.int .u16 C) (by rfl) (by rfl) (K4.out _) ?_) | fail)
          refine (wU16 C (x / 2 ^ (16 * (m - 1)) % 65536) HCC.out p _ _ _ hWi (fun l e => by cases e; have := HS.out; rw [List.length_append, nb_length, str_len]; omega)).mono ?_
          rintro e w7 ⟨rfl, v7, hW7, hM7⟩
          go_wp2
          go_roundw
          case rel =>
            refine ⟨m - 1, by omega, by have := HI.out; congr 1; omega, v7, ?_, hMi.trans hM7⟩
            rw [Option.map_some, List.append_assoc, nb16 x m hm0 hm] at hW7
            exact hW7
          case measure => have := HI.out; simp [intOf]; omega
        · have hm00 : m = 0 := by omega
          subst hm00
          have hW9 : CW wr p vi (some (s.data.toList ++ nb x 8)) := by
            rw [show x / 2 ^ (16 * 0) = x by simp] at hWi
            exact hWi
          have hM8 := hMi
          clear hWi hMi
          have hMM := hM3.trans hM8
          have hO8 := HO2.out.same (fun g hg => hMM.block g (by have := HO2.out.block g hg; omega) (fun e => by have := HOp.out g hg; omega) (by simp [Value.ownBlock]))
          have kb8 := KB2.out.trans (hMM.below (B := w.heap.size) HP.out KB2.out.size (by simp [Value.ownBlock]))
          clear hMM hM3 hM8
          go_wp2_with fail
          refine (wOut p _ _ _ hW9).mono ?_
          rintro e w9 ⟨rfl, hb9⟩
          rw [HO.out, HE.out]
          have hO9 := hO8.below hb9
          have kb9 := kb8.trans (hb9.mono kb8.size)
          have HSZ := hide kb9.size
          clear hO8 kb8 hb9
          go_wp2_with (at_builtin; refine wpList_append_one rfl _ _ rfl w.heap.size _ (List.replicate 3 E) E (by rfl) hO9 (by rfl) rfl (by simp) HSZ.out ?_; intro g cap w10 hO10 hgr)
          go_roundw
          case rel =>
            have hbl : Below w.heap.size w w10 := kb9.trans (grown_below (B := w.heap.size) hgr (fun k hk => (hO9.block k hk).1) kb9.size)
            refine ⟨3 + 1, by omega, rfl, ?_, hbl⟩
            rw [← List.replicate_succ'] at hO10
            exact hO10
          case measure => simp [intOf]
    · go_wp2_with fail
      refine (wNew _).mono ?_
      rintro e w2 ⟨rfl, hW2, hb2, hz2⟩
      have HO2 := hide (hO.below hb2)
      have KB2 := hide (kb.trans (hb2.mono kb.size))
      obtain ⟨p, hp⟩ : ∃ p, wr.heap.size = p := ⟨_, rfl⟩
      have HOp : Hid (∀ g, u5.ownBlock = some g → g < p) := fun g hg => by have := (hO.block g hg).2; omega
      have HP : Hid (w.heap.size ≤ p) := by show _ ≤ _; omega
      rw [hp] at hW2 ⊢
      clear hb2 hz2 hp hO kb hpr
      go_wp2_with fail
      refine (wRaw s p _ _ _ hW2 (fun l e => by cases e; have := HS.out; simp; omega)).mono ?_
      rintro e w3 ⟨rfl, v3, hW3', hM3⟩
      have hW3 : CW w3 p v3 (some s.data.toList) := hW3'
      clear hW2 hW3'
      go_wp2
      go_loopw [9] (fun i wi => ∃ m : Nat, m ≤ 8 ∧ i = .int .i64 ((m : Int) - 1) ∧ ∃ vi, CW wi p vi (some (s.data.toList ++ nb (x / 2 ^ (8 * m)) (8 - m))) ∧ Mw p w3 v3 wi vi) (fun i _ => (intOf i + 1).toNat)
      case atStart => exact ⟨8, by omega, rfl, v3, by rw [show nb (x / 2 ^ (8 * 8)) (8 - 8) = [] from rfl, List.append_nil]; exact hW3, Mw.refl _ _ _⟩
      case round =>
        obtain ⟨m, hm, rfl, vi, hWi, hMi⟩ := hrel
        by_cases hm0 : 0 < m
        · obtain ⟨I, hI⟩ : ∃ I : Int, (m : Int) - 1 = I := ⟨_, rfl⟩
          obtain ⟨J, hJ⟩ : ∃ J : Int, 8 * I = J := ⟨_, rfl⟩
          obtain ⟨Z, hZ⟩ : ∃ Z : Int, V / (2 : Int) ^ (8 * (m - 1)) = Z := ⟨_, rfl⟩
          obtain ⟨C, hC⟩ : ∃ C : Int, ((x / 2 ^ (8 * (m - 1)) % 256 : Nat) : Int) = C := ⟨_, rfl⟩
          have hZ' : Z = ((x / 2 ^ (8 * (m - 1)) : Nat) : Int) := by rw [← hZ, HV.out, divp]
          have K1 : Hid (∀ w : World, (convert 3 43 (.int .i64 I)).run Try.prog w = .ok (.int .u64 I) w) := fun w => run_conv 3 43 .i64 .u64 I I (by kernel_rfl) (by kernel_rfl) (by kernel_rfl) (by
            obtain ⟨i, rfl⟩ := Int.eq_ofNat_of_zero_le (show 0 ≤ I by omega)
            rw [wrap_u .u64 64 rfl rfl, Nat.mod_eq_of_lt (by omega)]) w
          have K2 : Hid (∀ w : World, (binOp .mul 43 (.int .u64 8) (.int .u64 I)).run Try.prog w = .ok (.int .u64 J) w) := fun w => run_mul 43 .u64 8 I J (by
            obtain ⟨j, rfl⟩ := Int.eq_ofNat_of_zero_le (show 0 ≤ J by omega)
            rw [hJ, wrap_u .u64 64 rfl rfl, Nat.mod_eq_of_lt (by omega)]) w
          have K3 : Hid (∀ w : World, (binOp .shr 37 (.int .u64 V) (.int .u64 J)).run Try.prog w = .ok (.int .u64 Z) w) := fun w => run_shr 37 .u64 .u64 V J Z (8 * (m - 1)) (by omega) (by show _ ≤ 64; omega) hZ w
          have K4 : Hid (∀ w : World, (convert 37 5 (.int .u64 Z)).run Try.prog w = .ok (.int .u8 C) w) := fun w => run_conv 37 5 .u64 .u8 Z C (by kernel_rfl) (by kernel_rfl) (by kernel_rfl) (by rw [hZ', wrap_u .u8 8 rfl rfl, ← hC]) w
          have HCC := hide hC.symm
          have hd : decide (I ≥ 0) = true := decide_eq_true (by omega)
          have hd2 : (0 : Int) ≤ I := by omega
          have hd3 : I ≤ 8 := by omega
          have HI := hide hI
          rw [hI]
          clear hI hJ hZ hC hZ'
          go_wp2_with (first | (refine wpW_conv _ _ _ rfl (.int .i64 I) (.int .u64 I) (by rfl) (by rfl) (K1.out _) ?_) | (refine wpW_bin .mul _ _ _ _ rfl (.int .u64 8) (.int .u64 I) (.int .u64 J) (by rfl) (by rfl) (by rfl) rfl (K2.out _) ?_) | (refine wpW_bin .shr _ _ _ _ rfl (.int .u64 V) (.int .u64 J) (.int .u64 Z) (by rfl) (by rfl) (by rfl) rfl (K3.out _) ?_) | (refine wpW_conv _ _ _ rfl (.int .u64 Z) (.int .u8 C) (by rfl) (by rfl) (K4.out _) ?_) | fail)
          refine (wU8 C (x / 2 ^ (8 * (m - 1)) % 256) (by omega) HCC.out p _ _ _ hWi (fun l e => by cases e; have := HS.out; rw [List.length_append, nb_length, str_len]; omega)).mono ?_
          rintro e w7 ⟨rfl, v7, hW7, hM7⟩
          go_wp2
          go_roundw
          case rel =>
            refine ⟨m - 1, by omega, by have := HI.out; congr 1; omega, v7, ?_, hMi.trans hM7⟩
            rw [Option.map_some, List.append_assoc, nb8 x m hm0 hm] at hW7
            exact hW7
          case measure => have := HI.out; simp [intOf]; omega
        · have hm00 : m = 0 := by omega
          subst hm00
          have hW9 : CW wr p vi (some (s.data.toList ++ nb x 8)) := by
            rw [show x / 2 ^ (8 * 0) = x by simp] at hWi
            exact hWi
          have hM8 := hMi
          clear hWi hMi
          have hMM := hM3.trans hM8
          have hO8 := HO2.out.same (fun g hg => hMM.block g (by have := HO2.out.block g hg; omega) (fun e => by have := HOp.out g hg; omega) (by simp [Value.ownBlock]))
          have kb8 := KB2.out.trans (hMM.below (B := w.heap.size) HP.out KB2.out.size (by simp [Value.ownBlock]))
          clear hMM hM3 hM8
          go_wp2_with fail
          refine (wOut p _ _ _ hW9).mono ?_
          rintro e w9 ⟨rfl, hb9⟩
          rw [HO.out, HE.out]
          have hO9 := hO8.below hb9
          have kb9 := kb8.trans (hb9.mono kb8.size)
          have HSZ := hide kb9.size
          clear hO8 kb8 hb9
          go_wp2_with (at_builtin; refine wpList_append_one rfl _ _ rfl w.heap.size _ (List.replicate 4 E) E (by rfl) hO9 (by rfl) rfl (by simp) HSZ.out ?_; intro g cap w10 hO10 hgr)
          go_roundw
          case rel =>
            have hbl : Below w.heap.size w w10 := kb9.trans (grown_below (B := w.heap.size) hgr (fun k hk => (hO9.block k hk).1) kb9.size)
            refine ⟨4 + 1, by omega, rfl, ?_, hbl⟩
            rw [← List.replicate_succ'] at hO10
            exact hO10
          case measure => simp [intOf]
    · obtain ⟨g, cap, rfl, _, _⟩ := World.ownsRow.form hO (by simp)
      rw [show (List.replicate 5 E).length = 5 by simp] at hO ⊢
      have hc : ∀ i, i < 5 → wr.cell? ⟨g, i, none⟩ = some (.string E) := fun i hi => by rw [hO.cell i (by rw [List.length_replicate]; omega), List.getElem_replicate]
      have HCL := hide hc
      clear hc hO hpr
      go_wp2
      go_loopw [12] (fun i wr => ∃ j : Nat, j ≤ 5 ∧ i = .int .i64 (j : Int) ∧ Hid (∀ i, i < 5 → wr.cell? ⟨g, i, none⟩ = some (.string E)) ∧ Below w.heap.size w wr) (fun i _ => 5 - (intOf i).toNat)
      case atStart => exact ⟨0, by omega, rfl, HCL, kb⟩
      case round =>
        clear kb HCL
        obtain ⟨j, hj, rfl, hcl, kb⟩ := hrel
        have c0 := hcl.out 0 (by omega)
        by_cases hlt : j < 5
        · have hd : decide ((j : Int) < 5) = true := decide_eq_true (by omega)
          have cj := hcl.out j hlt
          have hk0 : (0 : Int) ≤ (j : Int) := by omega
          have hk1 : (j : Int) < 5 := by omega
          go_wp2
          go_quiet (fail)
          go_wp2
          go_roundw
          case rel => exact ⟨j + 1, by omega, by go_num, hcl, below_drewN kb nq⟩
          case measure => simp [intOf]; omega
        · have hj5 : j = 5 := by omega
          subst hj5
          go_wp2_with fail
          refine (rOpen E _).mono ?_
          rintro e w2 ⟨rfl, hR2, hb2, hz2⟩
          have gl : g < wr.heap.size := World.block_lt_of_cell? _ _ c0
          have c2 : w2.cell? ⟨g, 0, none⟩ = some (.string E) := (hb2.cell (p := ⟨g, 0, none⟩) gl).trans c0
          have kb2 := kb.trans (hb2.mono kb.size)
          have hp : w.heap.size ≤ wr.heap.size := kb.size
          obtain ⟨p, hpp⟩ : ∃ p, wr.heap.size = p := ⟨_, rfl⟩
          rw [hpp] at hR2 ⊢
          have HP : Hid (w.heap.size ≤ p) := by show _ ≤ _; omega
          have HQ : Hid (w2.heap.size = p + 1) := by show _ = _; omega
          clear hb2 hz2 hp hpp kb c0 hcl gl
          go_wp2_with fail
          refine (rOpen E _).mono ?_
          rintro e w3 ⟨rfl, hR3, hb3, hz3⟩
          have hr3 := hR2.below hb3
          have kb3 := kb2.trans (hb3.mono kb2.size)
          rw [HQ.out] at hR3 ⊢
          clear hR2 hb3 hz3 kb2 c2
          go_wp2_with fail
          refine (rU32 p _ _ hr3).mono ?_
          rintro e w4 ⟨rfl, h4, hM4⟩
          rw [U1.out] at h4
          rw [T1.out]
          go_wp2_with fail
          refine (rU16 p _ _ h4).mono ?_
          rintro e w5 ⟨rfl, h5, hM5⟩
          rw [U2.out] at h5
          rw [T2.out]
          go_wp2_with fail
          refine (rU8 p _ _ h5).mono ?_
          rintro e w6 ⟨rfl, h6, hM6⟩
          rw [U3.out] at h6
          rw [T3.out]
          go_wp2_with fail
          refine (rU8 p _ _ h6).mono ?_
          rintro e w7 ⟨rfl, h7, hM7⟩
          rw [U4.out] at h7
          rw [T4.out]
          have hMM := ((hM4.trans hM5).trans hM6).trans hM7
          have hR7 := hR3.same (hMM.block _ hR3.lt (by omega))
          have kb7 := kb3.trans (hMM.below (B := w.heap.size) HP.out kb3.size)
          clear hMM hM4 hM5 hM6 hM7 hR3 kb3 h4 h5 h6 hr3
          go_wp2_with fail
          refine (rI64 (p + 1) _ _ hR7 z T5.out).mono ?_
          rintro e w8 ⟨rfl, h8, hM8⟩
          rw [U5.out] at h8
          have hR8 := h7.same (hM8.block _ h7.lt (by omega))
          have kb8 := kb7.trans (hM8.below (B := w.heap.size) (by have := HP.out; omega) kb7.size)
          clear hM8 hR7 kb7 h7
          go_wp2_with (first | (refine wpW_conv _ _ _ rfl (.int .u64 V) (.int .i64 z) (by rfl) (by kernel_rfl) (HC1.out _) ?_) | (refine wpW_conv _ _ _ rfl (.int .u32 H) (.int .u64 H) (by rfl) (by kernel_rfl) (G1.out _) ?_) | (refine wpW_bin .shl _ _ _ _ rfl (.int .u64 H) (.int .u64 32) (.int .u64 Z1) (by rfl) (by rfl) (by kernel_rfl) rfl (G2.out _) ?_) | (refine wpW_conv _ _ _ rfl (.int .u16 M) (.int .u64 M) (by rfl) (by kernel_rfl) (G3.out _) ?_) | (refine wpW_bin .shl _ _ _ _ rfl (.int .u64 M) (.int .u64 16) (.int .u64 Z2) (by rfl) (by rfl) (by kernel_rfl) rfl (G4.out _) ?_) | (refine wpW_bin .or _ _ _ _ rfl (.int .u64 Z1) (.int .u64 Z2) (.int .u64 Z3) (by rfl) (by rfl) (by kernel_rfl) rfl (G5.out _) ?_) | (refine wpW_conv _ _ _ rfl (.int .u8 N) (.int .u64 N) (by rfl) (by kernel_rfl) (G6.out _) ?_) | (refine wpW_bin .shl _ _ _ _ rfl (.int .u64 N) (.int .u64 8) (.int .u64 Z4) (by rfl) (by rfl) (by kernel_rfl) rfl (G7.out _) ?_) | (refine wpW_bin .or _ _ _ _ rfl (.int .u64 Z3) (.int .u64 Z4) (.int .u64 Z5) (by rfl) (by rfl) (by kernel_rfl) rfl (G8.out _) ?_) | (refine wpW_conv _ _ _ rfl (.int .u8 O) (.int .u64 O) (by rfl) (by kernel_rfl) (G9.out _) ?_) | (refine wpW_bin .or _ _ _ _ rfl (.int .u64 Z5) (.int .u64 O) (.int .u64 V) (by rfl) (by rfl) (by kernel_rfl) rfl (G10.out _) ?_) | fail)
          refine (rDone p _ _ hR8).mono ?_
          rintro e w9 ⟨rfl, rfl⟩
          rw [HD0.out]
          go_wp2_with fail
          refine (rDone (p + 1) _ _ h8).mono ?_
          rintro e w10 ⟨rfl, rfl⟩
          rw [HD0.out]
          go_wp2
          go_ret
          exact ⟨rfl, kb8⟩
end Go.Proofs.Ytmcnempkddahcaa
