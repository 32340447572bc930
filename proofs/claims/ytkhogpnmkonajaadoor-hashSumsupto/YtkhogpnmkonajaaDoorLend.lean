/-
  lend, kept.
-/
import Derived.Test.YtkhogpnmkonajaaDoorLawHashParts
import Derived.Test.YtkhogpnmkonajaaDoorLawHashMacs
import Derived.Deep.Upon
import Derived.Laws.OwnMore
namespace Go.Proofs.YtkhogpnmkonajaaDoor
open Go.RowKit S
def markS : ByteArray := { data := #[109, 97, 114, 107] }
theorem StrsO.cell {w : World} {B g n cap : Nat} {l : List ByteArray} (h : StrsO w B (.slice (some ⟨g, 0, none⟩) n cap) l) (i : Nat) (hi : i < l.length) : w.cell? ⟨g, i, none⟩ = some (.string l[i]) := by
  rcases h.2 with ⟨h1, _⟩ | ⟨g', cap', cur, h1, hb, hg, hnc, hcm, hcs, htake⟩
  · cases h1
  · simp only [Value.slice.injEq, Option.some.injEq, Addr.mk.injEq, and_true] at h1
    obtain ⟨rfl, rfl, rfl⟩ := h1
    rw [cell_of_row w g i cur 9 (0, 0) hg]
    rw [Nat.mul_one] at htake
    have e : (cur.toList.take l.length)[i]? = (l.map Value.string)[i]? := by rw [htake]
    rw [List.getElem?_take_of_lt hi, List.getElem?_map, List.getElem?_eq_getElem hi, Array.getElem?_toList] at e
    exact e
theorem StrsO.frozen {w : World} {B g n cap : Nat} {l : List ByteArray} (h : StrsO w B (.slice (some ⟨g, 0, none⟩) n cap) l) (i : Nat) : w.frozen? ⟨g, i, none⟩ = false := by
  rcases h.2 with ⟨h1, _⟩ | ⟨g', cap', cur, h1, hb, hg, _⟩
  · cases h1
  · simp only [Value.slice.injEq, Option.some.injEq, Addr.mk.injEq, and_true] at h1
    obtain ⟨rfl, rfl, rfl⟩ := h1
    exact frozen_of_row w g i cur 9 hg
theorem StrsO.cap_le {w : World} {B g n cap : Nat} {l : List ByteArray} (h : StrsO w B (.slice (some ⟨g, 0, none⟩) n cap) l) : l.length ≤ cap ∧ cap ≤ maxLen := by
  rcases h.2 with ⟨h1, _⟩ | ⟨g', cap', cur, h1, hb, hg, hnc, hcm, _⟩
  · cases h1
  · simp only [Value.slice.injEq, Option.some.injEq, Addr.mk.injEq, and_true] at h1
    obtain ⟨rfl, rfl, rfl⟩ := h1
    exact ⟨hnc, hcm⟩
/-- append(nil, l...) of texts that came in. -/
theorem wpList_append_came {ops : Array Oper} {rest : List Oper} {o : Oper} {a : Act} {w : World} {Q : Exit → Act → World → Prop} (hgd : o.guard = none) (s x : Operand)
    (ho : o.op = .call { callee := .builtin .append, args := #[s, x], argTypes := #[24, 24] }) (ad : Option Addr) (c : Nat) (ss : List ByteArray) (hs : a.eval s = .slice none 0 0) (hx : a.eval x = .slice ad ss.length c) (hst : Strs w ad ss) (hlen : ss.length * 16 ≤ 140737488355328)
    (h : ∀ v w', StrsO w' w.heap.size v ss → Below w.heap.size w w' → wpList Tryd.prog ops Q rest (a.put o.dst v) w') : wpList Tryd.prog ops Q (o :: rest) a w := by
  have hh := info9
  cases hq : Tryd.prog.info? 9 with
  | none => rw [hq] at hh; cases hh
  | some i =>
    rw [hq] at hh
    simp only [Option.map_some, Option.some.injEq, Prod.mk.injEq] at hh
    obtain ⟨hz0, hz1, hz2⟩ := hh
    rcases hst with rfl | ⟨b, of, rfl, hb, hcs⟩
    · have hsrc : Src Tryd.prog i.size 24 (.slice ad 0 c) 0 [] w := by
        cases ad with
        | none => exact Src.ofNil w Tryd.underlying24 c
        | some A => exact Src.ofSlice w Tryd.underlying24 A 0 c [] (by simp) (fun j u hu => by simp at hu) (fun u hu => by cases hu)
      have hr := run_append_nothing (P := Tryd.prog) w 24 24 o.type 9 i Tryd.underlying24 hq none 0 0 (Nat.le_refl _) (.slice ad 0 c) hsrc
      refine wpList_plain hgd fun K hK => ?_
      unfold Oper.wp execOp
      simp only [ho, resolve, invoke, builtin, Sem.run_bind, Sem.run_pure, Result.andThen_ok, List.map_toArray, List.map_cons, List.map_nil, hs, hx, List.length_nil, hr]
      exact hK _ _ (h _ _ (StrsO.nil w _) (Below.refl _ _))
    · rcases Nat.eq_zero_or_pos ss.length with h0 | h0
      · have hn : ss = [] := List.length_eq_zero_iff.1 h0
        subst hn
        have hsrc : Src Tryd.prog i.size 24 (.slice (some ⟨b, of, none⟩) 0 c) 0 [] w := Src.ofSlice w Tryd.underlying24 _ 0 c [] (by simp) (fun j u hu => by simp at hu) (fun u hu => by cases hu)
        have hr := run_append_nothing (P := Tryd.prog) w 24 24 o.type 9 i Tryd.underlying24 hq none 0 0 (Nat.le_refl _) (.slice (some ⟨b, of, none⟩) 0 c) hsrc
        refine wpList_plain hgd fun K hK => ?_
        unfold Oper.wp execOp
        simp only [ho, resolve, invoke, builtin, Sem.run_bind, Sem.run_pure, Result.andThen_ok, List.map_toArray, List.map_cons, List.map_nil, hs, hx, List.length_nil, hr]
        exact hK _ _ (h _ _ (StrsO.nil w _) (Below.refl _ _))
      · refine wpList_append_lies (P := Tryd.prog) w hgd s x 24 ho w.heap.size 9 i (.string { data := #[] }) 1 16 Tryd.underlying24 hq hz0 hz1 hz2 rfl (by omega) (.slice none 0 0) 0 [] hs (World.ownsRow_nil w _ 9 1) ⟨b, of, none⟩ ss.length c (ss.map Value.string) hx (by simp) ?_ ?_ h0 (by unfold maxLen; omega) (by omega) (Nat.le_refl _) w.heap.size rfl ?_
        · intro j u hu
          have hj : j < ss.length := by simpa using (List.getElem?_eq_some_iff.1 hu).1
          rw [List.getElem?_map, List.getElem?_eq_getElem hj] at hu
          have hadd : (⟨b, of, none⟩ : Addr).add j = ⟨b, of + j, none⟩ := by unfold Addr.add; split <;> simp_all
          rw [hadd, hcs j hj]
          simpa using hu
        · intro u hu
          obtain ⟨c', _, rfl⟩ := List.mem_map.1 hu
          rfl
        · intro g cap w' h1 h2 h3 h4
          refine h _ w' ?_ (grown_below (B := w.heap.size) h2 (fun k hk => by cases hk) (Nat.le_refl _))
          unfold StrsO
          rw [List.nil_append, Nat.zero_add] at h1
          rw [Nat.zero_add]
          exact h1
set_option maxHeartbeats 800000 in
theorem lend_any (ad : Option Addr) (c : Nat) (ss : List ByteArray) (w : World) (hst : Strs w ad ss) (hl : ss.length ≤ 1048576) :
    Calls Tryd.prog 18 #[.slice ad ss.length c] w fun e w' => (∃ g cap, e = .returned (.slice (some ⟨g, 0, none⟩) ss.length cap) ∧ StrsO w' w.heap.size (.slice (some ⟨g, 0, none⟩) (ss.length + 1) cap) (ss ++ [markS])) ∧ Below w.heap.size w w' := by
  go_enter Tryd.func18, Tryd.ntmps18
  go_wp2_with (at_builtin; first | (refine wpList_append_came rfl _ _ rfl ad c ss (by rfl) (by rfl) hst (by omega) ?_; intro v w1 hO1 hb1) | (refine wpList_append_strs rfl _ _ rfl w.heap.size _ ss [markS] (by rfl) hO1 (by simp) 1 rfl (by rfl) rfl (by simp; omega) hb1.size ?_; intro g cap w2 hO2 hgr hg; have hcc := hO2.cap_le; rw [List.length_append, List.length_singleton] at hcc; have hcl : ss.length ≤ cap := by omega))
  go_ret
  exact ⟨⟨g, cap, rfl, hO2⟩, hb1.trans (grown_below (B := w.heap.size) hgr hO1.block hb1.size)⟩
set_option maxHeartbeats 1600000 in
theorem kept_any (B g cap : Nat) (ad : Option Addr) (c : Nat) (ss : List ByteArray) (w : World) (hO : StrsO w B (.slice (some ⟨g, 0, none⟩) (ss.length + 1) cap) (ss ++ [markS])) (hst : Strs w ad ss) (hl : ss.length ≤ 1048576) :
    Calls Tryd.prog 20 #[.slice (some ⟨g, 0, none⟩) ss.length cap, .slice ad ss.length c] w fun e w' => e = .returned (.bool true) ∧ Below w.heap.size w w' := by
  have hcc := hO.cap_le
  rw [List.length_append, List.length_singleton] at hcc
  unfold maxLen at hcc
  have hmark : w.cell? ⟨g, ss.length, none⟩ = some (.string markS) := by
    rw [hO.cell ss.length (by simp)]; simp
  have hgl : g < w.heap.size := (World.ownsRow.lt hO g rfl).2
  have hown : ∀ i (h : i < ss.length), w.cell? ⟨g, i, none⟩ = some (.string ss[i]) := fun i h => by
    rw [hO.cell i (by simp; omega)]; simp [h]
  have HOW := hide hown
  have HST := hide hst
  clear hown hst hO
  go_enter Tryd.func20, Tryd.ntmps20
  go_wp2
  go_loopw [5] (fun i wr => ∃ k : Nat, k ≤ ss.length ∧ i = .int .i64 k ∧ ∃ m, wr = w.drewN m) (fun i _ => ss.length - (intOf i).toNat)
  case atStart => exact ⟨0, by omega, rfl, 0, rfl⟩
  case round =>
    obtain ⟨k, hk, rfl, m, rfl⟩ := hrel
    by_cases hlt : k < ss.length
    · have hd : decide ((k : Int) < (ss.length : Int)) = true := by simp; omega
      have ho := HOW.out k hlt
      rcases HST.out with h | ⟨b, o, rfl, hb0, hcs⟩
      · rw [h] at hlt; exact absurd hlt (by simp)
      have hc := hcs k hlt
      clear hcs
      have hk0 : (0 : Int) ≤ (k : Int) := by omega
      have hk1 : (k : Int) < (ss.length : Int) := by omega
      go_wp2
      go_quiet (fail)
      go_wp2
      go_roundw
      case rel => exact ⟨k + 1, by omega, by go_num, by first | exact ⟨_, rfl⟩ | (rw [World.drewN_drewN]; exact ⟨_, rfl⟩)⟩
      case measure => simp [intOf]; omega
    · have hkl : k = ss.length := by omega
      subst hkl
      have hd : decide ((ss.length : Int) < (ss.length : Int)) = false := by simp
      have hn1 : (ss.length : Int) + 1 ≤ (cap : Int) := by omega
      have hn0 : (0 : Int) ≤ (ss.length : Int) := by omega
      have hmk : markS = { data := #[109, 97, 114, 107] } := rfl
      rw [hmk] at hmark
      go_wp2
      go_ret
      exact ⟨rfl, below_drewN (Below.refl _ _) m⟩
end Go.Proofs.YtkhogpnmkonajaaDoor
