/-
  Scan over frames one behind the other; the statements' first.
-/
import Derived.Test.YtcpbcnbgcacgnabFScan
import Derived.Laws.Concat
namespace Go.Proofs.Ytcpbcnbgcacgnab
open Go.RowKit C
set_option linter.unusedVariables false
theorem scan_of (b : ByteArray) (m : Nat) (ps : List Key) (r : List UInt8) (w : World) (hb : b.data.toList = joinF m ps ++ r) (hp : ∀ p ∈ ps, p.length ≤ 65536) (hm : m + ps.length < 9223372036854775808) (hr : wholeT r ((m : Int) + ps.length) = none) (hbs : b.size ≤ 4611686018427387904) (hfew : ps.length * 16 ≤ 140737488355328)
    (N : Int) (hN : N = (m : Int)) (E : Int) (hE : E = ((joinF m ps).length : Int)) (T : Bool) (hT : T = !r.isEmpty) :
    Calls Try.prog 5 #[.string b, .int .i64 N] w fun e w' => ∃ ad cap, e = .returned (.tuple #[.slice ad ps.length cap, .int .i64 E, .bool T]) ∧ w'.ownsRow w.heap.size 9 1 (.slice ad ps.length cap) ps.length (ps.map encStr) ∧ Below w.heap.size w w' := by
  subst hN hE hT
  have ht := told_join r ps m hp (by omega)
  rw [← hb] at ht
  refine (scan_few b m w (by omega) hbs (fun qs t' h => by have := Told.le ht hr h; omega)).mono ?_
  rintro e w' ⟨ad, cap, qs, t', rfl, ho, hf, hbw⟩
  obtain ⟨rfl, rfl⟩ := hf.told.unique hf.none ht hr
  refine ⟨ad, cap, ?_, ho, hbw⟩
  have e : b.size - t'.length = (joinF m qs).length := by rw [← str_len, hb, List.length_append]; omega
  rw [e]
theorem data_append (a b : ByteArray) : (a ++ b).data.toList = a.data.toList ++ b.data.toList := by
  rw [ByteArray.data_append, Array.toList_append]
/-- a + b, as a letter. -/
theorem add_texts (a b : ByteArray) (h : a.size + b.size ≤ 9223372036854775807) : ∃ G : ByteArray, (∀ w : World, (Op.stringOp .add a b).run Try.prog w = .ok (.string G) w) ∧ G.data.toList = a.data.toList ++ b.data.toList :=
  ⟨a ++ b, fun w => run_string_add_sum w a b h, data_append a b⟩
def abS : ByteArray := { data := #[97, 98] }
def abL : List UInt8 := [97, 98]
set_option maxHeartbeats 1000000 in
theorem first_any (w : World) : Calls Try.prog 4 #[] w fun e w' => e = .returned (.bool true) ∧ Below w.heap.size w w' := by
  have hfr : frameS 7 abS = ⟨(frameL 7 abL).toArray⟩ := rfl
  have hfe : frameE 7 abS = 0 := rfl
  have fa := fun w => frame_any 7 abS w (by decide)
  rw [hfr, hfe] at fa
  obtain ⟨F, hF⟩ : ∃ F : ByteArray, F = ⟨(frameL 7 abL).toArray⟩ := ⟨_, rfl⟩
  rw [← hF] at fa
  have hFl : F.data.toList = frameL 7 abL := by rw [hF]
  have hFs : F.size = 64 := by rw [← str_len, hFl, frameL_length]; rfl
  have FA := hide fa
  have fb := fun w => frame_any (-1) nil8 w (by decide)
  have hge : frameE (-1) nil8 = 1 := rfl
  have hgs : frameS (-1) nil8 = nil8 := rfl
  rw [hge, hgs] at fb
  have FB := hide fb
  have hw7 : wholeT F.data.toList 7 = some abL := wholeT_some.2 ⟨by decide, by decide, by decide, by rw [hFl]; exact List.prefix_rfl⟩
  have hw8 : wholeT F.data.toList 8 = none := by rw [hFl]; exact other_none 7 abL (by decide) (by decide) 8 (by decide)
  have n7 : nextA F.data.toList 0 7 = (abL, 64, 1) := by
    unfold nextA
    rw [if_neg (by rw [str_len, hFs]; decide), if_neg (by rw [str_len, hFs]; decide)]
    rw [show (0 : Int).toNat = 0 from rfl, List.drop_zero, hw7]; rfl
  have n8 : nextA F.data.toList 0 8 = ([], 0, 2) := by
    unfold nextA
    rw [if_neg (by rw [str_len, hFs]; decide), if_neg (by rw [str_len, hFs]; decide)]
    rw [show (0 : Int).toNat = 0 from rfl, List.drop_zero, hw8]
  have na := fun w => next_any F 0 7 w (by decide)
  rw [nx_of n7 abS rfl 64 rfl] at na
  have NA := hide na
  have nb' := fun w => next_any F 0 8 w (by decide)
  rw [nx_of n8 nil8 rfl 0 rfl] at nb'
  have NB := hide nb'
  have HFs := hide hFs
  have HFl := hide hFl
  obtain ⟨G, hadd, hG⟩ := add_texts F { data := #[120] } (by rw [hFs]; decide)
  have HG := hide hG
  clear hG hfr hfe fa hF hFl fb hge hgs hw7 hw8 n7 n8 na nb' hFs
  go_enter Try.func4, Try.ntmps4
  go_wp2_with fail
  refine (FA.out _).mono ?_
  rintro e w1 ⟨rfl, hb1⟩
  go_wp2_with fail
  refine (FB.out _).mono ?_
  rintro e w2 ⟨rfl, hb2⟩
  go_wp2_with fail
  refine (NA.out _).mono ?_
  rintro e w3 ⟨rfl, hb3⟩
  go_wp2_with fail
  refine (NB.out _).mono ?_
  rintro e w4 ⟨rfl, hb4⟩
  go_wp2_with fail
  have HGs : Hid (G.size ≤ 4611686018427387904) := by
    show _ ≤ _
    rw [← str_len, HG.out, List.length_append, str_len, HFs.out]; decide
  refine (scan_of G 7 [abL] [120] _ (by rw [HG.out, HFl.out]; simp [joinF]) (by decide) (by decide) (by
    rw [wholeT_none]; intro q hq
    have h1 := hq.len
    have h2 := room_ge q.length
    simp only [List.length_singleton] at h1
    omega) HGs.out (by decide) 7 rfl 64 rfl true rfl).mono ?_
  rintro e w5 ⟨ad, cap, rfl, ho5, hb5⟩
  have hB : Below w.heap.size w w5 := (((hb1.trans (hb2.mono hb1.size)).trans (hb3.mono (Nat.le_trans hb1.size hb2.size))).trans (hb4.mono (Nat.le_trans (Nat.le_trans hb1.size hb2.size) hb3.size))).trans (hb5.mono (Nat.le_trans (Nat.le_trans (Nat.le_trans hb1.size hb2.size) hb3.size) hb4.size))
  obtain ⟨ad', cap', he, hrow, -, -, -⟩ := own_at ho5
  cases he
  rcases hrow with h | ⟨b, o, rfl, hlt, hcs⟩
  · cases h
  have hc0 : w5.cell? ⟨b, o, none⟩ = some (.string abS) := hcs 0 (by decide)
  have hs64 := HFs.out
  have q1 : (((F.size : Int)) == 64) = true := by rw [hs64]; rfl
  have q2 : (abS.toList == [97, 98]) = true := by decide +kernel
  have q3 : ((64 : Int) == 64) = true := rfl
  go_wp2
  go_ret
  exact ⟨rfl, hB⟩
end Go.Proofs.Ytcpbcnbgcacgnab
