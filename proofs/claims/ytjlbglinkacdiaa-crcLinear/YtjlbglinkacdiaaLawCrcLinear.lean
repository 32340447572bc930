/-
  The walk of CrcLinear.
-/
import Derived.Test.YtjlbglinkacdiaaRanges
import Derived.Deep.RegionHeld3
import Derived.Deep.AppendLies
import Derived.Laws.BytesArg
import Derived.Lib.Strings
namespace Go.Proofs.Ytjlbglinkacdiaa
open Go.RowKit C
theorem info5 : (Try.prog.info? 5).map (fun i => (i.zero, i.size, i.bytes)) = some (some (.int .u8 0), 1, 1) := by kernel_rfl
def byteV (c : UInt8) : Value := .int .u8 (c.toNat : Int)
theorem u8_xor_byte (x y : UInt8) : bits .xor .u8 (x.toNat : Int) (y.toNat : Int) = ((x ^^^ y).toNat : Int) := by
  rw [u8_xor_nat x.toNat y.toNat x.toNat_lt y.toNat_lt, UInt8.toNat_xor]
/-- string(d) of a slice of bytes that the call owns. -/
theorem conv_own (w w' : World) (base : Nat) (d : Value) (k : Nat) (l : List UInt8) (h : w.ownsRow base 5 1 d k (l.map byteV)) (hb : Below w.heap.size w w') :
    (convert 29 9 d).run Try.prog w' = .ok (.string ⟨l.toArray⟩) w' := by
  obtain ⟨hl, h⟩ := h
  rw [List.length_map, Nat.mul_one] at hl
  rcases h with ⟨rfl, rfl⟩ | ⟨g, cap, cur, rfl, _, hg, hk, _, hc, hx⟩
  · have : l = [] := List.length_eq_zero_iff.1 hl
    subst this
    exact run_convert_bytes_nil w' 29 5 Try.underlying29 Try.underlying5 0 0 9 Try.underlying9
  · have hlt : g < w.heap.size := by
      rcases Nat.lt_or_ge g w.heap.size with h | h
      · exact h
      · rw [Array.getElem?_eq_none h] at hg; cases hg
    have hr := run_convert_bytes_arg w' 29 5 Try.underlying29 Try.underlying5 g 0 k cap (l.map fun c => (c.toNat : Int)) (by simpa using hl) (fun i hi => by
      rw [hb.cell (p := ⟨g, 0 + i, none⟩) hlt, Nat.zero_add, cell_of_row w g i cur 5 (0, 0) hg]
      have h1 : (cur.toList.take (k * 1))[i]? = (l.map byteV)[i]? := by rw [hx]
      rw [List.getElem?_take_of_lt (by omega)] at h1
      rw [← Array.getElem?_toList, h1]
      have : i < l.length := by omega
      simp [this, byteV]) 9 Try.underlying9
    rw [hr]
    congr 3
    have hf : (fun x : UInt8 => UInt8.ofNat ((x.toNat : Int)).toNat) = id := by funext x; simp
    simp only [strOfNums, List.map_map, Function.comp_def, Int.toNat_natCast]
    simp
theorem size_len (a : ByteArray) : a.size = a.data.toList.length := by rw [Array.length_toList]; rfl
theorem zip3_length : ∀ (a b c : List UInt8), a.length = b.length → a.length = c.length → (zip3 a b c).length = a.length
  | [], [], [], _, _ => rfl
  | _ :: x, _ :: y, _ :: z, h1, h2 => by simp only [zip3, List.length_cons]; rw [zip3_length x y z (by simpa using h1) (by simpa using h2)]
theorem zip3_snoc : ∀ (a b c : List UInt8) (x y z : UInt8), a.length = b.length → a.length = c.length → zip3 (a ++ [x]) (b ++ [y]) (c ++ [z]) = zip3 a b c ++ [x ^^^ y ^^^ z]
  | [], [], [], _, _, _, _, _ => rfl
  | _ :: l, _ :: m, _ :: n, x, y, z, h1, h2 => by simp only [List.cons_append, zip3]; rw [zip3_snoc l m n x y z (by simpa using h1) (by simpa using h2)]
theorem lin_snoc (a b c : ByteArray) (k : Nat) (ha : k < a.size) (hb : k < b.size) (hc : k < c.size) :
    zip3 (a.data.toList.take (k + 1)) (b.data.toList.take (k + 1)) (c.data.toList.take (k + 1)) = zip3 (a.data.toList.take k) (b.data.toList.take k) (c.data.toList.take k) ++ [a[k] ^^^ b[k] ^^^ c[k]] := by
  have la : k < a.data.toList.length := by simpa using ha
  have lb : k < b.data.toList.length := by simpa using hb
  have lc : k < c.data.toList.length := by simpa using hc
  rw [take_snoc a k ha, take_snoc b k hb, take_snoc c k hc, zip3_snoc]
  · rw [List.length_take, List.length_take]; omega
  · rw [List.length_take, List.length_take]; omega
theorem cut_data (a : ByteArray) (m : Nat) : (a.extract 0 m).data.toList = a.data.toList.take m := by
  rw [Lib.extract_data]; simp
theorem cut_size (a : ByteArray) (m : Nat) (h : a.size ≤ 140737488351232) : (a.extract 0 m).size ≤ maxLen := by
  rw [ByteArray.size_extract]; unfold maxLen; omega
theorem byteV_xor3 (x y z : UInt8) : Value.int .u8 (bits .xor .u8 (bits .xor .u8 (x.toNat : Int) (y.toNat : Int)) (z.toNat : Int)) = byteV (x ^^^ y ^^^ z) := by
  unfold byteV; rw [u8_xor_byte, u8_xor_byte]
theorem ret_true {b : Bool} (h : b = true) : Ending.returned (.bool b) = .returned (.bool true) := by rw [h]
theorem own_ge {w : World} {base : Nat} {e : TypeId} {size : Nat} {v : Value} {m : Nat} {xs : List Value} (h : w.ownsRow base e size v m xs) : ∀ k, v.ownBlock = some k → base ≤ k := by
  intro k hk
  rcases h.2 with ⟨rfl, _⟩ | ⟨g, cap, cur, rfl, hg, _⟩
  · simp [Value.ownBlock] at hk
  · simp [Value.ownBlock] at hk; omega
theorem keepL {wr W w5 : World} {p : World → Prop} (HC : Hid (∀ wx, Below wr.heap.size wr wx → p wx)) (h1 : Below wr.heap.size wr W) (h2 : Below W.heap.size W w5) : Below wr.heap.size wr w5 ∧ p w5 :=
  ⟨h1.trans (h2.mono h1.size), HC.out _ (h1.trans (h2.mono h1.size))⟩
theorem keepL0 {wr : World} {p : World → Prop} (HC : Hid (∀ wx, Below wr.heap.size wr wx → p wx)) : Below wr.heap.size wr wr.drew ∧ p wr.drew :=
  ⟨(Below.refl _ _).drew, HC.out _ (Below.refl _ _).drew⟩
attribute [local go_sem] Num.xor
set_option maxRecDepth 100000 in
set_option maxHeartbeats 800000 in
theorem crcLinear_A (n : Num) (a b c : ByteArray) (m : Nat) (hm : a.size = m) (ha : m ≤ a.size) (hb : m ≤ b.size) (hc : m ≤ c.size) (la : a.size ≤ 140737488351232) (lb : b.size ≤ 140737488351232) (lc : c.size ≤ 140737488351232) (w : World) :
    Calls Try.prog 5 #[.string a, .string b, .string c] w fun e w' => e = .returned (.bool true) ∧ Below w.heap.size w w' := by
  obtain ⟨i0, hi0, hz0, hz1, hz2⟩ := info_parts info5
  have d1 : decide (b.size < m) = false := by simp; omega
  have d2 : decide (c.size < m) = false := by simp; omega
  have hmm : m ≤ 140737488351232 := by omega
  go_enter Try.func5, Try.ntmps5
  go_wp2_with fail
  refine (first_any n _).mono ?_
  rintro e w1 ⟨rfl, hb1⟩
  go_wp2
  go_loopw [8, 9] (fun d i wr => ∃ k : Nat, k ≤ m ∧ i = .int .i64 k ∧ wr.ownsRow w1.heap.size 5 1 d k ((zip3 (a.data.toList.take k) (b.data.toList.take k) (c.data.toList.take k)).map byteV) ∧ Below w1.heap.size w1 wr) (fun _ i _ => m - (intOf i).toNat)
  case atStart => exact ⟨0, Nat.zero_le _, rfl, ⟨rfl, Or.inl ⟨rfl, rfl⟩⟩, Below.refl _ _⟩
  case round =>
    obtain ⟨k, hk, rfl, hown, hbw⟩ := hrel
    by_cases hlt : k < m
    · have hd : decide ((k : Int) < (m : Int)) = true := by simp; omega
      have hka : k < a.size := by omega
      have hkb : k < b.size := by omega
      have hkc : k < c.size := by omega
      have k0 : (0 : Int) ≤ (k : Int) := by omega
      have ka : (k : Int) < (a.size : Int) := by omega
      have kb : (k : Int) < (b.size : Int) := by omega
      have kc : (k : Int) < (c.size : Int) := by omega
      have km : (k : Int) < (m : Int) := by omega
      have hsz : w1.heap.size ≤ wr.heap.size := hbw.size
      go_wp2_with fail
      go_region_held3 (fun _ => True) (trivial)
        ((refine step_append_lies _ (by rfl) _ _ _ (by rfl) w1.heap.size 5 i0 _ 1 1 Try.underlying29 hi0 hz0 hz1 hz2 rfl (by omega) u8 k _ (by rfl) ((hown.alloc _).drew) ⟨wr.heap.size, 0, none⟩ 1 1 [.int .u8 (bits .xor .u8 (bits .xor .u8 (a[k].toNat : Int) (b[k].toNat : Int)) (c[k].toNat : Int))] (by rfl) (by rfl) (World.news_of_block (cs := #[.int .u8 (bits .xor .u8 (bits .xor .u8 (a[k].toNat : Int) (b[k].toNat : Int)) (c[k].toNat : Int))]) (t := 5) (fr := (0, 0)) (heap_alloc_new wr _)) (by simp [Value.oneCell']) (by omega) (by unfold maxLen; omega) (by omega) (by simp; omega) (wr.heap.size + 1) (by simp) ?_; intro g cap w2 hown2 hgrow hat hlt2))
      all_goals
        go_wp2
        go_roundw
        case rel =>
          refine ⟨k + 1, by omega, by go_num, ?_, Below.grown ((hbw.alloc hsz _).drew) hgrow (by simp; omega) (own_ge hown)⟩
          rw [lin_snoc a b c k hka hkb hkc, List.map_append, List.map_cons, List.map_nil, ← byteV_xor3]
          exact hown2
        case measure => simp [intOf]; omega
    · have hkm : k = m := by omega
      subst hkm
      have hd : decide ((k : Int) < (k : Int)) = false := by simp
      have hcv := fun wx => conv_own wr wx w1.heap.size u8 k _ hown
      have HC := hide hcv
      clear hcv
      have za := cut_size a k la
      have zb := cut_size b k lb
      have zc := cut_size c k lc
      have hlen : (zip3 (a.data.toList.take k) (b.data.toList.take k) (c.data.toList.take k)).length = k := by
        have e1 := size_len a
        have e2 := size_len b
        have e3 := size_len c
        rw [zip3_length] <;> simp only [List.length_take] <;> omega
      have zd : (ByteArray.mk (zip3 (a.data.toList.take k) (b.data.toList.take k) (c.data.toList.take k)).toArray).size ≤ maxLen := by
        rw [size_len]; simp only []; rw [hlen]; unfold maxLen; omega
      clear hlen
      go_wp2_with fail
      go_region_held3 (fun wx => Below wr.heap.size wr wx ∧ (convert 29 9 u8).run Try.prog wx = .ok (.string ⟨(zip3 (a.data.toList.take k) (b.data.toList.take k) (c.data.toList.take k)).toArray⟩) wx)
        (first | exact keepL0 HC | (go_split_ands; refine keepL HC (by first | assumption | exact (Below.refl _ _).drew) (by assumption)) | (go_split_ands; refine ⟨?_, ?_⟩ <;> assumption))
        (first | (go_at_call 10; refine (sum_any n _ _ (by first | exact za | exact zb | exact zc | exact zd)).mono ?_; rintro e w5 ⟨rfl, hb5⟩))
      go_wp2
      go_ret
      have h5 : Below wr.heap.size wr w5 := (‹Below wr.heap.size wr w5 ∧ _›).1
      have hl := on_zip3 (a.data.toList.take k) (b.data.toList.take k) (c.data.toList.take k) (by simp only [List.length_take]; have e1 := size_len a; have e2 := size_len b; omega) (by simp only [List.length_take]; have e1 := size_len a; have e3 := size_len c; omega)
      have h6 := hbw.trans (h5.mono hbw.size)
      exact ⟨ret_true (by rw [hl]; simp), hb1.trans (h6.mono hb1.size)⟩
set_option maxRecDepth 100000 in
set_option maxHeartbeats 800000 in
theorem crcLinear_B (n : Num) (a b c : ByteArray) (m : Nat) (hm : c.size = m) (ha : m ≤ a.size) (hb : m ≤ b.size) (hc : m ≤ c.size) (la : a.size ≤ 140737488351232) (lb : b.size ≤ 140737488351232) (lc : c.size ≤ 140737488351232) (g1 : ¬ b.size < a.size) (g2 : m < a.size) (w : World) :
    Calls Try.prog 5 #[.string a, .string b, .string c] w fun e w' => e = .returned (.bool true) ∧ Below w.heap.size w w' := by
  obtain ⟨i0, hi0, hz0, hz1, hz2⟩ := info_parts info5
  have d1 : decide (b.size < a.size) = false := by simp; omega
  have d2 : decide (m < a.size) = true := by simp; omega
  have hmm : m ≤ 140737488351232 := by omega
  go_enter Try.func5, Try.ntmps5
  go_wp2_with fail
  refine (first_any n _).mono ?_
  rintro e w1 ⟨rfl, hb1⟩
  go_wp2
  go_loopw [8, 9] (fun d i wr => ∃ k : Nat, k ≤ m ∧ i = .int .i64 k ∧ wr.ownsRow w1.heap.size 5 1 d k ((zip3 (a.data.toList.take k) (b.data.toList.take k) (c.data.toList.take k)).map byteV) ∧ Below w1.heap.size w1 wr) (fun _ i _ => m - (intOf i).toNat)
  case atStart => exact ⟨0, Nat.zero_le _, rfl, ⟨rfl, Or.inl ⟨rfl, rfl⟩⟩, Below.refl _ _⟩
  case round =>
    obtain ⟨k, hk, rfl, hown, hbw⟩ := hrel
    by_cases hlt : k < m
    · have hd : decide ((k : Int) < (m : Int)) = true := by simp; omega
      have hka : k < a.size := by omega
      have hkb : k < b.size := by omega
      have hkc : k < c.size := by omega
      have k0 : (0 : Int) ≤ (k : Int) := by omega
      have ka : (k : Int) < (a.size : Int) := by omega
      have kb : (k : Int) < (b.size : Int) := by omega
      have kc : (k : Int) < (c.size : Int) := by omega
      have km : (k : Int) < (m : Int) := by omega
      have hsz : w1.heap.size ≤ wr.heap.size := hbw.size
      go_wp2_with fail
      go_region_held3 (fun _ => True) (trivial)
        ((refine step_append_lies _ (by rfl) _ _ _ (by rfl) w1.heap.size 5 i0 _ 1 1 Try.underlying29 hi0 hz0 hz1 hz2 rfl (by omega) u8 k _ (by rfl) ((hown.alloc _).drew) ⟨wr.heap.size, 0, none⟩ 1 1 [.int .u8 (bits .xor .u8 (bits .xor .u8 (a[k].toNat : Int) (b[k].toNat : Int)) (c[k].toNat : Int))] (by rfl) (by rfl) (World.news_of_block (cs := #[.int .u8 (bits .xor .u8 (bits .xor .u8 (a[k].toNat : Int) (b[k].toNat : Int)) (c[k].toNat : Int))]) (t := 5) (fr := (0, 0)) (heap_alloc_new wr _)) (by simp [Value.oneCell']) (by omega) (by unfold maxLen; omega) (by omega) (by simp; omega) (wr.heap.size + 1) (by simp) ?_; intro g cap w2 hown2 hgrow hat hlt2))
      all_goals
        go_wp2
        go_roundw
        case rel =>
          refine ⟨k + 1, by omega, by go_num, ?_, Below.grown ((hbw.alloc hsz _).drew) hgrow (by simp; omega) (own_ge hown)⟩
          rw [lin_snoc a b c k hka hkb hkc, List.map_append, List.map_cons, List.map_nil, ← byteV_xor3]
          exact hown2
        case measure => simp [intOf]; omega
    · have hkm : k = m := by omega
      subst hkm
      have hd : decide ((k : Int) < (k : Int)) = false := by simp
      have hcv := fun wx => conv_own wr wx w1.heap.size u8 k _ hown
      have HC := hide hcv
      clear hcv
      have za := cut_size a k la
      have zb := cut_size b k lb
      have zc := cut_size c k lc
      have hlen : (zip3 (a.data.toList.take k) (b.data.toList.take k) (c.data.toList.take k)).length = k := by
        have e1 := size_len a
        have e2 := size_len b
        have e3 := size_len c
        rw [zip3_length] <;> simp only [List.length_take] <;> omega
      have zd : (ByteArray.mk (zip3 (a.data.toList.take k) (b.data.toList.take k) (c.data.toList.take k)).toArray).size ≤ maxLen := by
        rw [size_len]; simp only []; rw [hlen]; unfold maxLen; omega
      clear hlen
      go_wp2_with fail
      go_region_held3 (fun wx => Below wr.heap.size wr wx ∧ (convert 29 9 u8).run Try.prog wx = .ok (.string ⟨(zip3 (a.data.toList.take k) (b.data.toList.take k) (c.data.toList.take k)).toArray⟩) wx)
        (first | exact keepL0 HC | (go_split_ands; refine keepL HC (by first | assumption | exact (Below.refl _ _).drew) (by assumption)) | (go_split_ands; refine ⟨?_, ?_⟩ <;> assumption))
        (first | (go_at_call 10; refine (sum_any n _ _ (by first | exact za | exact zb | exact zc | exact zd)).mono ?_; rintro e w5 ⟨rfl, hb5⟩))
      go_wp2
      go_ret
      have h5 : Below wr.heap.size wr w5 := (‹Below wr.heap.size wr w5 ∧ _›).1
      have hl := on_zip3 (a.data.toList.take k) (b.data.toList.take k) (c.data.toList.take k) (by simp only [List.length_take]; have e1 := size_len a; have e2 := size_len b; omega) (by simp only [List.length_take]; have e1 := size_len a; have e3 := size_len c; omega)
      have h6 := hbw.trans (h5.mono hbw.size)
      exact ⟨ret_true (by rw [hl]; simp), hb1.trans (h6.mono hb1.size)⟩
set_option maxRecDepth 100000 in
set_option maxHeartbeats 800000 in
theorem crcLinear_C (n : Num) (a b c : ByteArray) (m : Nat) (hm : b.size = m) (ha : m ≤ a.size) (hb : m ≤ b.size) (hc : m ≤ c.size) (la : a.size ≤ 140737488351232) (lb : b.size ≤ 140737488351232) (lc : c.size ≤ 140737488351232) (g1 : m < a.size) (w : World) :
    Calls Try.prog 5 #[.string a, .string b, .string c] w fun e w' => e = .returned (.bool true) ∧ Below w.heap.size w w' := by
  obtain ⟨i0, hi0, hz0, hz1, hz2⟩ := info_parts info5
  have d1 : decide (m < a.size) = true := by simp; omega
  have d2 : decide (c.size < m) = false := by simp; omega
  have hmm : m ≤ 140737488351232 := by omega
  go_enter Try.func5, Try.ntmps5
  go_wp2_with fail
  refine (first_any n _).mono ?_
  rintro e w1 ⟨rfl, hb1⟩
  go_wp2
  go_loopw [8, 9] (fun d i wr => ∃ k : Nat, k ≤ m ∧ i = .int .i64 k ∧ wr.ownsRow w1.heap.size 5 1 d k ((zip3 (a.data.toList.take k) (b.data.toList.take k) (c.data.toList.take k)).map byteV) ∧ Below w1.heap.size w1 wr) (fun _ i _ => m - (intOf i).toNat)
  case atStart => exact ⟨0, Nat.zero_le _, rfl, ⟨rfl, Or.inl ⟨rfl, rfl⟩⟩, Below.refl _ _⟩
  case round =>
    obtain ⟨k, hk, rfl, hown, hbw⟩ := hrel
    by_cases hlt : k < m
    · have hd : decide ((k : Int) < (m : Int)) = true := by simp; omega
      have hka : k < a.size := by omega
      have hkb : k < b.size := by omega
      have hkc : k < c.size := by omega
      have k0 : (0 : Int) ≤ (k : Int) := by omega
      have ka : (k : Int) < (a.size : Int) := by omega
      have kb : (k : Int) < (b.size : Int) := by omega
      have kc : (k : Int) < (c.size : Int) := by omega
      have km : (k : Int) < (m : Int) := by omega
      have hsz : w1.heap.size ≤ wr.heap.size := hbw.size
      go_wp2_with fail
      go_region_held3 (fun _ => True) (trivial)
        ((refine step_append_lies _ (by rfl) _ _ _ (by rfl) w1.heap.size 5 i0 _ 1 1 Try.underlying29 hi0 hz0 hz1 hz2 rfl (by omega) u8 k _ (by rfl) ((hown.alloc _).drew) ⟨wr.heap.size, 0, none⟩ 1 1 [.int .u8 (bits .xor .u8 (bits .xor .u8 (a[k].toNat : Int) (b[k].toNat : Int)) (c[k].toNat : Int))] (by rfl) (by rfl) (World.news_of_block (cs := #[.int .u8 (bits .xor .u8 (bits .xor .u8 (a[k].toNat : Int) (b[k].toNat : Int)) (c[k].toNat : Int))]) (t := 5) (fr := (0, 0)) (heap_alloc_new wr _)) (by simp [Value.oneCell']) (by omega) (by unfold maxLen; omega) (by omega) (by simp; omega) (wr.heap.size + 1) (by simp) ?_; intro g cap w2 hown2 hgrow hat hlt2))
      all_goals
        go_wp2
        go_roundw
        case rel =>
          refine ⟨k + 1, by omega, by go_num, ?_, Below.grown ((hbw.alloc hsz _).drew) hgrow (by simp; omega) (own_ge hown)⟩
          rw [lin_snoc a b c k hka hkb hkc, List.map_append, List.map_cons, List.map_nil, ← byteV_xor3]
          exact hown2
        case measure => simp [intOf]; omega
    · have hkm : k = m := by omega
      subst hkm
      have hd : decide ((k : Int) < (k : Int)) = false := by simp
      have hcv := fun wx => conv_own wr wx w1.heap.size u8 k _ hown
      have HC := hide hcv
      clear hcv
      have za := cut_size a k la
      have zb := cut_size b k lb
      have zc := cut_size c k lc
      have hlen : (zip3 (a.data.toList.take k) (b.data.toList.take k) (c.data.toList.take k)).length = k := by
        have e1 := size_len a
        have e2 := size_len b
        have e3 := size_len c
        rw [zip3_length] <;> simp only [List.length_take] <;> omega
      have zd : (ByteArray.mk (zip3 (a.data.toList.take k) (b.data.toList.take k) (c.data.toList.take k)).toArray).size ≤ maxLen := by
        rw [size_len]; simp only []; rw [hlen]; unfold maxLen; omega
      clear hlen
      go_wp2_with fail
      go_region_held3 (fun wx => Below wr.heap.size wr wx ∧ (convert 29 9 u8).run Try.prog wx = .ok (.string ⟨(zip3 (a.data.toList.take k) (b.data.toList.take k) (c.data.toList.take k)).toArray⟩) wx)
        (first | exact keepL0 HC | (go_split_ands; refine keepL HC (by first | assumption | exact (Below.refl _ _).drew) (by assumption)) | (go_split_ands; refine ⟨?_, ?_⟩ <;> assumption))
        (first | (go_at_call 10; refine (sum_any n _ _ (by first | exact za | exact zb | exact zc | exact zd)).mono ?_; rintro e w5 ⟨rfl, hb5⟩))
      go_wp2
      go_ret
      have h5 : Below wr.heap.size wr w5 := (‹Below wr.heap.size wr w5 ∧ _›).1
      have hl := on_zip3 (a.data.toList.take k) (b.data.toList.take k) (c.data.toList.take k) (by simp only [List.length_take]; have e1 := size_len a; have e2 := size_len b; omega) (by simp only [List.length_take]; have e1 := size_len a; have e3 := size_len c; omega)
      have h6 := hbw.trans (h5.mono hbw.size)
      exact ⟨ret_true (by rw [hl]; simp), hb1.trans (h6.mono hb1.size)⟩
set_option maxRecDepth 100000 in
set_option maxHeartbeats 800000 in
theorem crcLinear_D (n : Num) (a b c : ByteArray) (m : Nat) (hm : c.size = m) (ha : m ≤ a.size) (hb : m ≤ b.size) (hc : m ≤ c.size) (la : a.size ≤ 140737488351232) (lb : b.size ≤ 140737488351232) (lc : c.size ≤ 140737488351232) (g1 : b.size < a.size) (g2 : m < b.size) (w : World) :
    Calls Try.prog 5 #[.string a, .string b, .string c] w fun e w' => e = .returned (.bool true) ∧ Below w.heap.size w w' := by
  obtain ⟨i0, hi0, hz0, hz1, hz2⟩ := info_parts info5
  have d1 : decide (b.size < a.size) = true := by simp; omega
  have d2 : decide (m < b.size) = true := by simp; omega
  have hmm : m ≤ 140737488351232 := by omega
  go_enter Try.func5, Try.ntmps5
  go_wp2_with fail
  refine (first_any n _).mono ?_
  rintro e w1 ⟨rfl, hb1⟩
  go_wp2
  go_loopw [8, 9] (fun d i wr => ∃ k : Nat, k ≤ m ∧ i = .int .i64 k ∧ wr.ownsRow w1.heap.size 5 1 d k ((zip3 (a.data.toList.take k) (b.data.toList.take k) (c.data.toList.take k)).map byteV) ∧ Below w1.heap.size w1 wr) (fun _ i _ => m - (intOf i).toNat)
  case atStart => exact ⟨0, Nat.zero_le _, rfl, ⟨rfl, Or.inl ⟨rfl, rfl⟩⟩, Below.refl _ _⟩
  case round =>
    obtain ⟨k, hk, rfl, hown, hbw⟩ := hrel
    by_cases hlt : k < m
    · have hd : decide ((k : Int) < (m : Int)) = true := by simp; omega
      have hka : k < a.size := by omega
      have hkb : k < b.size := by omega
      have hkc : k < c.size := by omega
      have k0 : (0 : Int) ≤ (k : Int) := by omega
      have ka : (k : Int) < (a.size : Int) := by omega
      have kb : (k : Int) < (b.size : Int) := by omega
      have kc : (k : Int) < (c.size : Int) := by omega
      have km : (k : Int) < (m : Int) := by omega
      have hsz : w1.heap.size ≤ wr.heap.size := hbw.size
      go_wp2_with fail
      go_region_held3 (fun _ => True) (trivial)
        ((refine step_append_lies _ (by rfl) _ _ _ (by rfl) w1.heap.size 5 i0 _ 1 1 Try.underlying29 hi0 hz0 hz1 hz2 rfl (by omega) u8 k _ (by rfl) ((hown.alloc _).drew) ⟨wr.heap.size, 0, none⟩ 1 1 [.int .u8 (bits .xor .u8 (bits .xor .u8 (a[k].toNat : Int) (b[k].toNat : Int)) (c[k].toNat : Int))] (by rfl) (by rfl) (World.news_of_block (cs := #[.int .u8 (bits .xor .u8 (bits .xor .u8 (a[k].toNat : Int) (b[k].toNat : Int)) (c[k].toNat : Int))]) (t := 5) (fr := (0, 0)) (heap_alloc_new wr _)) (by simp [Value.oneCell']) (by omega) (by unfold maxLen; omega) (by omega) (by simp; omega) (wr.heap.size + 1) (by simp) ?_; intro g cap w2 hown2 hgrow hat hlt2))
      all_goals
        go_wp2
        go_roundw
        case rel =>
          refine ⟨k + 1, by omega, by go_num, ?_, Below.grown ((hbw.alloc hsz _).drew) hgrow (by simp; omega) (own_ge hown)⟩
          rw [lin_snoc a b c k hka hkb hkc, List.map_append, List.map_cons, List.map_nil, ← byteV_xor3]
          exact hown2
        case measure => simp [intOf]; omega
    · have hkm : k = m := by omega
      subst hkm
      have hd : decide ((k : Int) < (k : Int)) = false := by simp
      have hcv := fun wx => conv_own wr wx w1.heap.size u8 k _ hown
      have HC := hide hcv
      clear hcv
      have za := cut_size a k la
      have zb := cut_size b k lb
      have zc := cut_size c k lc
      have hlen : (zip3 (a.data.toList.take k) (b.data.toList.take k) (c.data.toList.take k)).length = k := by
        have e1 := size_len a
        have e2 := size_len b
        have e3 := size_len c
        rw [zip3_length] <;> simp only [List.length_take] <;> omega
      have zd : (ByteArray.mk (zip3 (a.data.toList.take k) (b.data.toList.take k) (c.data.toList.take k)).toArray).size ≤ maxLen := by
        rw [size_len]; simp only []; rw [hlen]; unfold maxLen; omega
      clear hlen
      go_wp2_with fail
      go_region_held3 (fun wx => Below wr.heap.size wr wx ∧ (convert 29 9 u8).run Try.prog wx = .ok (.string ⟨(zip3 (a.data.toList.take k) (b.data.toList.take k) (c.data.toList.take k)).toArray⟩) wx)
        (first | exact keepL0 HC | (go_split_ands; refine keepL HC (by first | assumption | exact (Below.refl _ _).drew) (by assumption)) | (go_split_ands; refine ⟨?_, ?_⟩ <;> assumption))
        (first | (go_at_call 10; refine (sum_any n _ _ (by first | exact za | exact zb | exact zc | exact zd)).mono ?_; rintro e w5 ⟨rfl, hb5⟩))
      go_wp2
      go_ret
      have h5 : Below wr.heap.size wr w5 := (‹Below wr.heap.size wr w5 ∧ _›).1
      have hl := on_zip3 (a.data.toList.take k) (b.data.toList.take k) (c.data.toList.take k) (by simp only [List.length_take]; have e1 := size_len a; have e2 := size_len b; omega) (by simp only [List.length_take]; have e1 := size_len a; have e3 := size_len c; omega)
      have h6 := hbw.trans (h5.mono hbw.size)
      exact ⟨ret_true (by rw [hl]; simp), hb1.trans (h6.mono hb1.size)⟩
theorem crcLinear_walk (a0 : ByteArray) (a1 : ByteArray) (a2 : ByteArray) (w0 : a0.size ≤ 140737488351232) (w1 : a1.size ≤ 140737488351232) (w2 : a2.size ≤ 140737488351232) (w : World) :
    Calls Try.prog 5 #[.string a0, .string a1, .string a2] w fun e w' => e = .returned (.bool true) ∧ Below w.heap.size w w' := by
  by_cases hab : a1.size < a0.size
  · by_cases hbc : a2.size < a1.size
    · exact crcLinear_D num a0 a1 a2 _ rfl (by omega) (by omega) (by omega) w0 w1 w2 hab hbc w
    · exact crcLinear_C num a0 a1 a2 _ rfl (by omega) (by omega) (by omega) w0 w1 w2 hab w
  · by_cases hac : a2.size < a0.size
    · exact crcLinear_B num a0 a1 a2 _ rfl (by omega) (by omega) (by omega) w0 w1 w2 hab hac w
    · exact crcLinear_A num a0 a1 a2 _ rfl (by omega) (by omega) (by omega) w0 w1 w2 w
end Go.Proofs.Ytjlbglinkacdiaa
