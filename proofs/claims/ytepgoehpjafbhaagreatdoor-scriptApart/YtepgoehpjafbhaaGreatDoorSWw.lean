/-
  script's writer: the text of commands.
-/
import Derived.Test.YtepgoehpjafbhaaGreatDoorSWt
namespace Go.Proofs.YtepgoehpjafbhaaGreatDoor
open Go.RowKit S
set_option linter.unusedVariables false
set_option linter.unusedSimpArgs false
/-- Fates that may be read behind a slice's address. -/
def FsIn (w : World) (ad : Option Addr) (gs : List (Nat → Value)) : Prop := (∀ (i : Nat) (g : Nat → Value), gs[i]? = some g → FtOk g ∧ One 4 g) ∧ (gs = [] ∨ ∃ k o, ad = some ⟨k, o, none⟩ ∧ k < w.heap.size ∧ ∀ (i : Nat) (g : Nat → Value), gs[i]? = some g → At w k (o + i * 4) g 4)
/-- A command that may be read: its cells, its fates. -/
def CdIn (w : World) (c : Cd) : Prop := CdOk c.1 ∧ One 176 c.1 ∧ c.2.length ≤ 140737488355328 ∧ ∃ ad cap, c.1 173 = .slice ad c.2.length cap ∧ FsIn w ad c.2
/-- Commands that may be read behind a slice's address. -/
def CsIn (w : World) (ad : Option Addr) (cs : List Cd) : Prop := (∀ (i : Nat) (c : Cd), cs[i]? = some c → CdIn w c) ∧ (cs = [] ∨ ∃ k o, ad = some ⟨k, o, none⟩ ∧ k < w.heap.size ∧ ∀ (i : Nat) (c : Cd), cs[i]? = some c → At w k (o + i * 176) c.1 176)
theorem At.blk {w w' : World} {k o m : Nat} {f : Nat → Value} (h : At w k o f m) (e : w'.heap[k]? = w.heap[k]?) : At w' k o f m := fun j hj => by
  have := h j hj
  unfold World.cell? at this ⊢
  rw [e]
  exact this
theorem FsIn.at_ {w w' : World} {b : Nat} {v : Value} {ad : Option Addr} {gs : List (Nat → Value)} (h : FsIn w ad gs) (e : ∀ k, k < w.heap.size → w'.heap[k]? = w.heap[k]?) (hs : w.heap.size ≤ w'.heap.size) (hb : w.heap.size ≤ b) (hv : ∀ k, v.ownBlock = some k → w.heap.size ≤ k) : FsAt w' b v ad gs :=
  ⟨h.1, h.2.imp id fun ⟨k, o, h1, h2, h3⟩ => ⟨k, o, h1, by omega, by omega, fun e => by have := hv k e; omega, fun i g hg => (h3 i g hg).blk (e k h2)⟩⟩
def linesW (F : Int → List UInt8) : List Cd → WS → Option WS
  | [], x => some x
  | c :: t, x => (commandW F c.1 c.2 x).bind fun y => linesW F t (addW [10] y)
theorem linesW_cons (F : Int → List UInt8) (c : Cd) (t : List Cd) (x : WS) : linesW F (c :: t) x = (commandW F c.1 c.2 x).bind fun y => linesW F t (addW [10] y) := rfl
set_option maxRecDepth 100000 in
set_option maxHeartbeats 1600000 in
theorem written_any {E : Prop} {B : Nat} {F : Int → List UInt8} (ad : Option Addr) (cap : Nat) (cs : List Cd) (w : World) (hE : EnvW E B F w) (hB0 : B ≤ w.heap.size) (hS : CsIn w ad cs) (hl : cs.length ≤ 140737488355328) :
    Calls Tryz.prog 29 #[.slice ad cs.length cap] w fun e w' => Below w.heap.size w w' ∧
      ((∃ y, linesW F cs ([], false) = some y ∧ e = .returned (.tuple #[.string (bs y.1), .bool (y.2 || tooL y.1)]) ∧ y.1.length ≤ 65536) ∨ (linesW F cs ([], false) = none ∧ Bad e)) := by
  obtain ⟨R, hRR⟩ : ∃ R, linesW F cs ([], false) = R := ⟨_, rfl⟩
  rw [hRR]
  have HQ0 := hide hRR
  obtain ⟨w1, hw1⟩ : ∃ z, w.alloc (.cells #[.pointer none, .slice none 0 0, .bool false] 89) = z := ⟨_, rfl⟩
  have b1 : Below w.heap.size w w1 := by rw [← hw1]; exact (Below.refl _ w).alloc (Nat.le_refl _) _
  have s1 : w1.heap.size = w.heap.size + 1 := by rw [← hw1, size_alloc]
  have hN1 : Has w1 w.heap.size 89 (wtv (.pointer none) (.slice none 0 0) false) 3 := by rw [← hw1]; exact Has.new w _ _ 3 _ rfl
  have hW1 : Wr w1 w.heap.size (w.heap.size + 1) (.slice none 0 0) [] false := ⟨by omega, by omega, World.ownsRow_nil _ _ _ _, _, .inl rfl, hN1⟩
  have HB1 := hide b1
  have HE1 := hide (hE.below (b1.mono hB0))
  have HW1 := hide hW1
  have HS := hide hS
  clear hRR hE hS b1 hN1 hW1
  go_enter Tryz.func29, Tryz.ntmps29
  go_wp2_with (rw [hw1])
  go_loopw [12] (fun i wr => ∃ (k : Nat) (vk : Value) (y : WS), k ≤ cs.length ∧ i = .int .i64 k ∧ R = linesW F (cs.drop k) y ∧ Wr wr w.heap.size (w.heap.size + 1) vk y.1 y.2 ∧ Mw w.heap.size w1 (.slice none 0 0) wr vk ∧ y.1.length ≤ 65536) (fun i _ => cs.length - (Lib.intOf i).toNat)
  case atStart => exact ⟨0, .slice none 0 0, ([], false), by omega, rfl, by rw [← HQ0.out, List.drop_zero], HW1.out, Mw.refl _ _ _, by simp⟩
  case round =>
    obtain ⟨k, vk, y, hk, rfl, hQ, hWk, hMk, hy⟩ := hrel
    have HQ := hide hQ
    have HWk := hide hWk
    have HMk := hide hMk
    have hown : ∀ j, vk.ownBlock = some j → w.heap.size + 1 ≤ j := fun j e => (hMk.own j e).elim (fun h => by cases h) (fun h => by omega)
    have hkeep : ∀ j, j < w.heap.size → wr.heap[j]? = w.heap[j]? := fun j hj => (hMk.block j (by omega) (by omega) (fun h => by cases h)).trans (HB1.out.block j hj)
    have HBk : Hid (Below w.heap.size w wr) := hide (HB1.out.trans (hMk.below (by omega) (Nat.le_refl _) (fun j e => by cases e)))
    have hsz : w.heap.size + 1 ≤ wr.heap.size := by have := hMk.size; omega
    have Hown := hide hown
    have Hkeep := hide hkeep
    clear hQ hWk hMk hown hkeep
    by_cases hlt : k < cs.length
    · have hd : decide ((k : Int) < (cs.length : Int)) = true := decide_eq_true (by omega)
      have hx : cs[k]? = some cs[k] := List.getElem?_eq_getElem hlt
      have HQ1 : Hid (R = (commandW F cs[k].1 cs[k].2 y).bind fun z => linesW F (cs.drop (k + 1)) (addW [10] z)) := hide (by rw [HQ.out, List.drop_eq_getElem_cons hlt, linesW_cons])
      have hCd := HS.out.1 k _ hx
      obtain ⟨kb, o, rfl, hkb, hAt⟩ := HS.out.2.resolve_left (fun e => by rw [e] at hlt; simp at hlt)
      have hAtk := (hAt k _ hx).blk (Hkeep.out kb hkb)
      generalize cs[k] = c at HQ1 hCd hAtk hx
      obtain ⟨f, gs⟩ := c
      obtain ⟨hok, h1c, hgl, ad, cap2, h173, hFs⟩ := hCd
      simp only at hok h1c hgl h173 hFs hAtk HQ1
      have HAt := hide hAtk
      have HFs := hide hFs
      have H173 := hide h173
      obtain ⟨w2, hw2⟩ : ∃ z, wr.alloc (.cells Tryz.zeroCells40 40) = z := ⟨_, rfl⟩
      have b2 : Below wr.heap.size wr w2 := by rw [← hw2]; exact (Below.refl _ wr).alloc (Nat.le_refl _) _
      have s2 : w2.heap.size = wr.heap.size + 1 := by rw [← hw2, size_alloc]
      have hN2 : Has w2 wr.heap.size 40 zC 176 := by rw [← hw2, zeroC]; exact Has.new wr _ _ 176 _ rfl
      have hN3 := hN2.row (tabv f 176) f rfl
      have b3 : Below wr.heap.size wr (w2.setRow wr.heap.size (tabv f 176)) := below_setRow b2 (Nat.le_refl _) _
      have HN2 := hide hN2
      have HN3 := hide hN3
      have HB3 := hide b3
      have HW2 := hide hw2
      have H1c := hide h1c
      clear hw2 hx hAtk hAt hN2 hN3 b2 b3 hFs h173 h1c
      go_wp2_with (first
        | rw [HW2.out]
        | refine wpW_load_at 40 _ rfl kb (o + k * 176) (by rfl) (by rfl) _ 176 _ HAt.out Tryz.underlying40 rfl infoC ?_
        | refine wpList_store_part rfl 40 _ _ rfl rfl wr.heap.size 0 f 176 (by rfl) (by rfl) 40 zC 176 HN2.out (by omega) infoC H1c.out f (fun i hi => by unfold splice; rw [if_pos (by omega), Nat.sub_zero]) ?_)
      generalize hw3 : World.setRow w2 wr.heap.size (tabv f 176) = w3
      have HN4 : Hid (Has w3 wr.heap.size 40 f 176) := hide (by rw [← hw3]; exact HN3.out)
      have HB4 : Hid (Below wr.heap.size wr w3) := hide (by rw [← hw3]; exact HB3.out)
      have hW3 := HWk.out.below HB4.out
      have hM3 := HMk.out.trans (Mw.of (v := vk) HB4.out)
      have hb3 := HBk.out.trans (HB4.out.mono (by omega))
      have hE3 := HE1.out.below ((hM3.below (B := w.heap.size) (by omega) (Nat.le_refl _) (fun j e => by cases e)).mono hB0)
      have hvk : vk.ownBlock ≠ some wr.heap.size := fun e => by have := (World.ownsRow.lt HWk.out.2.2.1 _ e).2; omega
      have hFs3 : FsAt w3 w.heap.size vk ad gs := HFs.out.at_ (fun j hj => (HB4.out.block j (by omega)).trans (Hkeep.out j hj)) (by have := HB4.out.size; omega) (Nat.le_refl _) (fun j e => by have := Hown.out j e; omega)
      refine (wcommand_any w.heap.size (w.heap.size + 1) wr.heap.size f ad cap2 gs vk y _ hE3 (by have := HB4.out.size; omega) hB0 (by omega) hW3 HN4.out hok (by omega) hvk hy H173.out hFs3 hgl).mono ?_
      rintro e w4 ⟨v4, hM4, ⟨z, hA, rfl, hW4, hz⟩ | ⟨hA, rfl⟩⟩
      · have HQ2 : Hid (R = linesW F (cs.drop (k + 1)) (addW [10] z)) := hide (by rw [HQ1.out, hA]; rfl)
        have HW4 := hide hW4
        have HM4 := hide (hM3.trans hM4)
        clear hA hW4 hM4 hM3 hW3 hE3 hw3 hb3 hFs3
        go_wp2_with fail
        refine (add_any w.heap.size (w.heap.size + 1) v4 z.1 [10] z.2 _ HW4.out hz (by simp)).mono ?_
        rintro e w5 ⟨rfl, v5, hW5, hM5⟩
        have HW5 : Hid (Wr w5 w.heap.size (w.heap.size + 1) v5 (addW [10] z).1 (addW [10] z).2) := hide hW5
        have HM5 := hide (HM4.out.trans hM5)
        clear hW5 hM5
        go_wp2
        refine ⟨⟨k + 1, v5, addW [10] z, by omega, by go_num, HQ2.out, HW5.out, HM5.out, addW_le hz⟩, ?_⟩
        simp [Lib.intOf]; omega
      · have HQ2 : Hid (R = none) := hide (by rw [HQ1.out, hA]; rfl)
        have HB5 : Hid (Below w.heap.size w w4) := hide (HB1.out.trans ((hM3.trans hM4).below (by omega) (Nat.le_refl _) (fun j e => by cases e)))
        clear hA hM3 hM4 hW3 hE3 hw3 hb3 hFs3
        go_wp2
        exact ⟨rfl, HB5.out, .inr ⟨HQ2.out, rfl⟩⟩
    · have hke : k = cs.length := by omega
      have hd : decide ((k : Int) < (cs.length : Int)) = false := decide_eq_false (by omega)
      have HQn : Hid (R = some y) := hide (by rw [HQ.out, hke, List.drop_length]; rfl)
      clear hke
      go_wp2_with fail
      refine (string_any w.heap.size (w.heap.size + 1) vk y.1 y.2 _ HWk.out).mono ?_
      rintro e w3 ⟨rfl, b3⟩
      obtain ⟨p, _, hP⟩ := HWk.out.2.2.2
      have hP3 := hP.below b3 (by omega)
      have c2 : w3.cell? ⟨w.heap.size, 2, none⟩ = some (.bool y.2) := hP3.cell 2 (by omega)
      have HB4 : Hid (Below w.heap.size w w3) := hide (HBk.out.trans (b3.mono (by omega)))
      have HE3 := hide (HE1.out.below (((HMk.out.below (B := w.heap.size) (by omega) (Nat.le_refl _) (fun j e => by cases e)).trans (b3.mono (by omega))).mono hB0))
      clear b3 hP hP3
      obtain ⟨t, lg⟩ := y
      simp only at hy c2 HQn HWk HMk ⊢
      cases lg with
      | true =>
        go_wp2
        go_ret2
        exact ⟨HB4.out, .inl ⟨_, HQn.out, by rw [Bool.true_or]; rfl, hy⟩⟩
      | false =>
        go_wp2_with fail
        refine (tooLong_any t _ HE3.out.env hy).mono ?_
        rintro e w4 ⟨rfl, b4⟩
        have HB5 : Hid (Below w.heap.size w w4) := hide (HB4.out.trans (b4.mono (by have := HB4.out.size; omega)))
        clear b4
        go_wp2
        go_ret2
        exact ⟨HB5.out, .inl ⟨_, HQn.out, by rw [Bool.false_or]; rfl, hy⟩⟩
end Go.Proofs.YtepgoehpjafbhaaGreatDoor
