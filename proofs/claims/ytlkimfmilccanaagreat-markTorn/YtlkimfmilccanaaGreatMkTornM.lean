/-
  MARKTORN: plain; bytes of a text, one of them turned.
-/
import Derived.Test.YtlkimfmilccanaaGreatMkBytes
import Derived.Test.YtlkimfmilccanaaGreatMkWhole
import Derived.Test.YtlkimfmilccanaaGreatMkTale
import Derived.Lib.ConvBytes
namespace Go.Proofs.YtlkimfmilccanaaGreat
open Go.RowKit Go.Maps Go.WideMaps
set_option linter.unusedVariables false
set_option linter.unusedSimpArgs false
/-- []byte(b): a new block of the bytes. -/
theorem bytes_of (b : ByteArray) (w : World) : ∃ (g cap : Nat) (W : World), g = w.heap.size ∧ (convert 9 42 (.string b)).run Tryz.prog w = .ok (.slice (some ⟨g, 0, none⟩) b.size cap) W ∧ Below w.heap.size w W ∧ W.heap.size = g + 1 ∧
    ∃ cur fz, W.heap[g]? = some (.cells cur 5 fz) ∧ b.size ≤ fz.1 ∧ (∀ j, j < b.size → cur[j]? = some (.int .u8 ((b.data.toList.getD j 0).toNat : Int))) := by
  refine ⟨w.heap.size, _, Lib.bytesWorld w 5 b, rfl, Lib.run_convert_string_bytes w 9 42 5 b Tryz.underlying9 Tryz.underlying42 Tryz.underlying5, ?_, Lib.bytesWorld_size w 5 b, _, _, Lib.bytesWorld_at_new w 5 b, ?_, ?_⟩
  · exact ⟨rfl, rfl, rfl, by rw [Lib.bytesWorld_size]; omega, fun j hj => Lib.bytesWorld_at_old w 5 b j hj⟩
  · simp [Lib.bytesCells]
  · intro j hj
    have := Lib.bytesWorld_cell w 5 b j hj
    unfold World.cell? at this
    rw [Lib.bytesWorld_at_new] at this
    simpa using this
/-- What stands behind the store, as a text. -/
theorem set_text (W : World) (g cap A : Nat) (b : ByteArray) (x : UInt8) (cur : Array Value) (fz : Nat × Nat) (hg : W.heap[g]? = some (.cells cur 5 fz)) (hc : ∀ j, j < b.size → cur[j]? = some (.int .u8 ((b.data.toList.getD j 0).toNat : Int))) (hA : A < b.size) :
    ∃ S : ByteArray, S.data.toList = b.data.toList.set A x ∧ ∀ w', (∀ j, w'.cell? ⟨g, j, none⟩ = (W.setCell ⟨g, A, none⟩ (.int .u8 (x.toNat : Int))).cell? ⟨g, j, none⟩) → (convert 42 9 (.slice (some ⟨g, 0, none⟩) b.size cap)).run Tryz.prog w' = .ok (.string S) w' := by
  have hcell : ∀ j, j < b.size → W.cell? ⟨g, j, none⟩ = some (.int .u8 ((b.data.toList.getD j 0).toNat : Int)) := fun j hj => by
    unfold World.cell?
    rw [hg]
    exact hc j hj
  refine ⟨strOfNums ((b.data.toList.set A x).map fun c => (c.toNat : Int)), ?_, fun w' hw => ?_⟩
  · simp only [strOfNums, List.map_map, Function.comp_def, Int.toNat_natCast]
    simp
  · refine run_convert_bytes_arg w' 42 5 Tryz.underlying42 Tryz.underlying5 g 0 b.size cap _ (by simp) (fun i hi => ?_) 9 Tryz.underlying9
    rw [Nat.zero_add, hw i]
    have hlen : i < (b.data.toList.set A x).length := by rw [List.length_set, str_len]; exact hi
    by_cases h : A = i
    · subst h
      rw [World.cell?_setCell_same _ _ _ (hcell A hA)]
      rw [List.getD, List.getElem?_map, List.getElem?_set_self (show A < b.data.toList.length by rw [str_len]; exact hA)]
      rfl
    · rw [World.cell?_setCell_other _ _ _ _ (by intro e; cases e; exact h rfl), hcell i hi]
      rw [List.getD, List.getD, List.getElem?_map, List.getElem?_set_ne h, List.getElem?_eq_getElem (show i < b.data.toList.length by rw [str_len]; exact hi)]
      rfl
theorem byte_of (k : Int) : ∃ x : UInt8, IntKind.u8.wrap k = (x.toNat : Int) := by
  refine ⟨UInt8.ofNat (k % 256).toNat, ?_⟩
  rw [IntKind.wrap_u8, Fr.toNat_ofNat8]
  omega
theorem and48 (x : Int) : ∃ a : Int, bits .and .i64 x 281474976710655 = a ∧ 0 ≤ a ∧ a ≤ 281474976710655 := by
  refine ⟨_, rfl, ?_⟩
  show 0 ≤ IntKind.i64.wrap ((BitVec.ofInt 64 x &&& BitVec.ofInt 64 281474976710655).toNat : Int) ∧ IntKind.i64.wrap ((BitVec.ofInt 64 x &&& BitVec.ofInt 64 281474976710655).toNat : Int) ≤ 281474976710655
  have h2 : (BitVec.ofInt 64 281474976710655).toNat = 2 ^ 48 - 1 := by decide
  rw [BitVec.toNat_and, h2, Nat.and_two_pow_sub_one_eq_mod, IntKind.wrap_i64]
  omega
/-! ### a disk with one file -/
def W1 (c : Int) (k t : Key) : AD := ⟨c, [(k, AF.new.write 0 t)], kP0⟩
def WD (c : Int) (t : Key) : AD := ⟨c, [(tL, ⟨t, t, fun _ => false⟩)], kP0⟩
section
variable {c : Int} {k t : Key} {v n : Int} {x : Nat}
theorem fr_write (hn : nameOk k = true) (hc : c ≤ 1000) (ht : (t.length : Int) ≤ c) : (AD.fresh c).write k 0 t = (0, W1 c k t) := by
  have hfl : (AD.fresh c).flen k = 0 := rfl
  have hf : (AD.fresh c).fits k 0 t.length = 0 := by
    rw [fits_rest hn (by rw [hfl]; omega), hfl, if_neg (by omega), if_neg (by simp [AD.fresh]), if_neg (by
      show ¬ ((fused ([] : FList) : Nat) : Int) - 0 + max 0 (0 + (t.length : Int)) > c
      rw [show fused ([] : FList) = 0 from rfl]; omega)]
  unfold AD.write
  rw [if_neg (by simp [AD.fresh]), hf, if_neg (by decide)]
  have hc : (AD.fresh c).pow.count 1 = (0, kP0) := kcount 1
  rw [hc, if_neg (by decide)]
  rfl
theorem w1_size : (W1 c tL t).size tL = ((t.length : Int), 0) := by
  unfold AD.size
  rw [if_neg (by simp [W1, kP0]), show fget (W1 c tL t).fs tL = some (AF.new.write 0 t) from one_get _ _]
  simp only [new_seen]
theorem w1_read (n : Nat) (h : t.length ≤ n) : (W1 c tL t).read tL 0 (n : Int) = (t, 0) := by
  unfold AD.read
  rw [if_neg (by simp [W1, kP0]), show fget (W1 c tL t).fs tL = some (AF.new.write 0 t) from one_get _ _]
  simp only
  rw [if_neg (by omega), new_seen]
  simp only [Int.toNat_zero, List.drop_zero, Int.toNat_natCast]
  rw [List.take_of_length_le h]
theorem w1_open (hl : t.length = 128) (hp : pickT t = some (v, x)) : (W1 c tL t).openM tL = (0, some (v, x), WD c t) := by
  have hy : (W1 c tL t).sync tL = (0, WD c t) := by
    unfold W1
    rw [tone_sync]
    unfold AF.sync
    rw [new_seen]
    rfl
  have hr := w1_read (c := c) (t := t) 128 (by omega)
  have hr' : (W1 c tL t).read tL 0 128 = (t, 0) := hr
  unfold AD.openM AD.loadM
  rw [w1_size, hl, hr']
  simp only
  rw [if_neg (by decide), if_neg (by decide), if_neg (by decide), if_neg (by decide), hp, hy]
  simp only
  rw [if_neg (by decide)]
theorem w1_open_none (hl : t.length = 128) (hp : pickT t = none) : (W1 c tL t).openM tL = (190, none, W1 c tL t) := by
  have hr := w1_read (c := c) (t := t) 128 (by omega)
  have hr' : (W1 c tL t).read tL 0 128 = (t, 0) := hr
  unfold AD.openM AD.loadM
  rw [w1_size, hl, hr']
  simp only
  rw [if_neg (by decide), if_neg (by decide), if_neg (by decide), if_neg (by decide), hp]
theorem w1_open_len (hl : t.length ≠ 128) : (W1 c tL t).openM tL = (190, none, W1 c tL t) := by
  unfold AD.openM
  rw [w1_size]
  simp only
  rw [if_neg (by decide), if_neg (by decide), if_pos (by omega)]
def put (t : Key) (x : Nat) (n : Int) : Key := t.take (64 * x) ++ slotL n ++ t.drop (64 * x + 64)
theorem put_eq (t : Key) (x : Nat) (n : Int) : put t x n = ((⟨t, t, fun _ => false⟩ : AF).write (64 * x) (slotL n)).seen := by rw [AF.write_slot]; rfl
theorem wd_raise (hc : 128 ≤ c) (hl : t.length = 128) (hx : x ≤ 1) (hn : numB n = true) (hv : v < n) : (WD c t).raiseM tL v x n = (0, (n, 1 - x), WD c (put t x n)) := by
  have hg : fget (WD c t).fs tL = some ⟨t, t, fun _ => false⟩ := one_get _ _
  have hfl : (WD c t).flen tL = 128 := by rw [flen_some hg]; show (t.length : Int) = 128; rw [hl]; rfl
  have hu : fused (WD c t).fs = 128 := by
    show fused [(tL, (⟨t, t, fun _ => false⟩ : AF))] = 128
    rw [fused_cons]
    show t.length + 0 = 128
    omega
  have hf : (WD c t).fits tL ((64 * x : Nat) : Int) ((slotL n).length : Int) = 0 := by
    rw [slotL_length, fits_rest (by decide) (by rw [hfl]; omega), hfl, hg, if_neg (by omega), if_neg (by simp), if_neg (by rw [hu]; show ¬ ((128 : Nat) : Int) - 128 + max 128 _ > c; omega)]
  have hs : fset (WD c t).fs tL ((⟨t, t, fun _ => false⟩ : AF).write (64 * x) (slotL n)) = [(tL, (⟨t, t, fun _ => false⟩ : AF).write (64 * x) (slotL n))] := by
    show fset [(tL, (⟨t, t, fun _ => false⟩ : AF))] tL _ = _
    rw [fset_cons, if_pos rfl]; rfl
  have hcn : (WD c t).pow.count 1 = (0, kP0) := kcount 1
  have hw : (WD c t).write tL ((64 * x : Nat) : Int) (slotL n) = (0, ⟨c, [(tL, (⟨t, t, fun _ => false⟩ : AF).write (64 * x) (slotL n))], kP0⟩) := by
    unfold AD.write
    rw [if_neg (by simp [WD, kP0]), hf, if_neg (by decide), hcn, if_neg (by decide), hg]
    simp only [Int.toNat_natCast, hs]
    rfl
  have e : ((⟨t, t, fun _ => false⟩ : AF).write (64 * x) (slotL n)).sync = ⟨put t x n, put t x n, fun _ => false⟩ := by rw [put_eq]; rfl
  unfold AD.raiseM
  rw [if_neg (by rw [hn]; simp), if_neg (by omega), hw]
  simp only [tone_sync, e]
  rw [if_neg (by decide), if_neg (by decide)]
  rfl
theorem wd_read (s : Nat) : (WD c t).read tL ((64 * s : Nat) : Int) 64 = (sec t s, 0) := by
  unfold AD.read
  rw [if_neg (by simp [WD, kP0]), show fget (WD c t).fs tL = some ⟨t, t, fun _ => false⟩ from one_get _ _]
  simp only
  rw [if_neg (by omega)]
  rfl
theorem put_same (hl : t.length = 128) (hx : x ≤ 1) : sec (put t x n) x = slotL n := by rw [put_eq]; exact ws_same hl hx
theorem put_other (hl : t.length = 128) (hx : x ≤ 1) : sec (put t x n) (1 - x) = sec t (1 - x) := by rw [put_eq]; exact ws_other hl hx
theorem wd_dirty : (WD c t).dirty tL = [] := by
  unfold AD.dirty
  rw [if_neg (by simp [WD, kP0]), show fget (WD c t).fs tL = some ⟨t, t, fun _ => false⟩ from one_get _ _]
  simp only
  unfold AF.dirtyL
  rw [List.filter_eq_nil_iff]
  intro s _ h
  exact absurd h (by simp)
/-- A spare that is left over. -/
theorem spare_open (hc : 128 ≤ c) (h1 : c ≤ 1000) : (W1 c (tL ++ dot) t).openM tL = (0, some (-1, 1), WD c two1) := by
  have hg : fget (W1 c (tL ++ dot) t).fs (tL ++ dot) = some (AF.new.write 0 t) := one_get _ _
  have hn : fget (W1 c (tL ++ dot) t).fs tL = none := by
    show fget [(tL ++ dot, AF.new.write 0 t)] tL = none
    rw [fget_cons, if_neg (by show ¬ (tL ++ dot = tL); decide)]; rfl
  have hsz : (W1 c (tL ++ dot) t).size tL = (0, 5) := by
    unfold AD.size
    rw [if_neg (by simp [W1, kP0]), hn]
  have r1 : (W1 c (tL ++ dot) t).remove (tL ++ dot) = (0, AD.fresh c) := by
    unfold AD.remove
    rw [if_neg (by simp [W1, kP0]), hg]
    simp only
    have : fdel (W1 c (tL ++ dot) t).fs (tL ++ dot) = [] := by simp [fdel, W1]
    rw [this]; rfl
  have r2 := fr_write (c := c) (k := tL ++ dot) (t := two1) (by decide) h1 (by rw [two1_length]; omega)
  have r3 : (W1 c (tL ++ dot) two1).sync (tL ++ dot) = (0, ⟨c, [(tL ++ dot, (AF.new.write 0 two1).sync)], kP0⟩) := tone_sync
  have r4 := tone_rename (c := c) (d := tL ++ dot) (k := tL) (F := (AF.new.write 0 two1).sync) (by decide)
  have e : (AF.new.write 0 two1).sync = ⟨two1, two1, fun _ => false⟩ := by unfold AF.sync; rw [new_seen]
  have hb : (W1 c (tL ++ dot) t).beginM tL = (0, WD c two1) := by
    unfold AD.beginM
    rw [r1, if_neg (by simp)]
    simp only [r2, r3, r4]
    rw [if_neg (by decide), if_neg (by decide), e]
    rfl
  unfold AD.openM
  rw [hsz, if_pos rfl, hb]
  rfl
theorem wd_read200 (hl : t.length = 128) : (WD c t).read tL 0 200 = (t, 0) := by
  unfold AD.read
  rw [if_neg (by simp [WD, kP0]), show fget (WD c t).fs tL = some ⟨t, t, fun _ => false⟩ from one_get _ _]
  simp only
  rw [if_neg (by decide)]
  simp only [Int.toNat_zero, List.drop_zero]
  rw [show (200 : Int).toNat = 200 from rfl, List.take_of_length_le (by omega)]
theorem wd_list : (WD c t).list = [tL] := by
  unfold AD.list
  rw [if_neg (by simp [WD, kP0])]
  rfl
end
end Go.Proofs.YtlkimfmilccanaaGreat
