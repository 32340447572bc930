import Derived.Test.YtepgoehpjafbhaaGreatDoorSHs
import Derived.Deep.AppendLies
/-
  Slices of bytes that the call makes (out of wip/hasht/BytesText): append a byte; string(b).
-/
namespace Go.Proofs.YtepgoehpjafbhaaGreatDoor
open Go.RowKit S
def byteV (c : UInt8) : Value := .int .u8 (c.toNat : Int)
/-- v is a slice of the bytes l, in memory of the call's own, from block B on. -/
def Bytes (w : World) (B : Nat) (v : Value) (l : List UInt8) : Prop := w.ownsRow B 5 1 v l.length (l.map byteV)
theorem info5 : (Tryz.prog.info? 5).map (fun i => (i.zero, i.size, i.bytes)) = some (some (.int .u8 0), 1, 1) := by kernel_rfl
theorem Bytes.nil (w : World) (B : Nat) : Bytes w B (.slice none 0 0) [] := World.ownsRow_nil w B 5 1
theorem grown_alloc (w : World) (o : Obj) (row : Option Nat) : w.grownBy (w.alloc o) row :=
  ⟨rfl, rfl, rfl, by simp, fun i hi _ => Below.heap_alloc w o i hi⟩
theorem Bytes.block {w : World} {B : Nat} {v : Value} {l : List UInt8} (h : Bytes w B v l) : ∀ k, v.ownBlock = some k → B ≤ k := fun k hk => (World.ownsRow.lt h k hk).1
theorem wpList_append_byte {ops : Array Oper} {rest : List Oper} {o : Oper} {a : Act} {w w0 : World} {Q : Exit → Act → World → Prop} (hgd : o.guard = none) (s x : Operand)
    (ho : o.op = .call { callee := .builtin .append, args := #[s, x], argTypes := #[24, 24] }) (B : Nat) (v : Value) (l : List UInt8) (c : UInt8) (X : Int) (hX : X = (c.toNat : Int)) (hs : a.eval s = v) (hown : Bytes w0 B v l)
    (hx : a.eval x = .slice (some ⟨w0.heap.size, 0, none⟩) 1 1) (hw : w = w0.alloc (.cells #[.int .u8 X] 5)) (hlen : l.length + 1 ≤ 140737488355328) (hB : B ≤ w0.heap.size)
    (h : ∀ g cap w', Bytes w' B (.slice (some ⟨g, 0, none⟩) (l.length + 1) cap) (l ++ [c]) → w0.grownBy w' v.ownBlock → (v.ownBlock = some g ∨ g = w0.heap.size + 1) → wpList Tryz.prog ops Q rest (a.put o.dst (.slice (some ⟨g, 0, none⟩) (l.length + 1) cap)) w') : wpList Tryz.prog ops Q (o :: rest) a w := by
  subst hX hw
  have hh := info5
  cases hq : Tryz.prog.info? 5 with
  | none => rw [hq] at hh; cases hh
  | some i =>
    rw [hq] at hh
    simp only [Option.map_some, Option.some.injEq, Prod.mk.injEq] at hh
    obtain ⟨hz0, hz1, hz2⟩ := hh
    have hown' : (w0.alloc (.cells #[.int .u8 (c.toNat : Int)] 5)).ownsRow B 5 1 v l.length (l.map byteV) := World.ownsRow.kept hown (grown_alloc w0 _ none) (by cases v.ownBlock <;> simp)
    refine wpList_append_lies (P := Tryz.prog) _ hgd s x 24 ho B 5 i (.int .u8 0) 1 1 Tryz.underlying24 hq hz0 hz1 hz2 rfl (by omega) v l.length (l.map byteV) hs hown' ⟨w0.heap.size, 0, none⟩ 1 1 [byteV c] hx rfl ?_ ?_ (by omega) (by unfold maxLen; omega) (by omega) (by simp; omega) (w0.heap.size + 1) (by simp) ?_
    · intro j u hu
      exact World.news_of_block (heap_alloc_new w0 _) j u hu
    · intro u hu
      simp at hu; subst hu; rfl
    · intro g cap w' h1 h2 h3 h4
      refine h g cap w' ?_ ((grown_alloc w0 _ v.ownBlock).trans h2) h3
      unfold Bytes
      rw [List.length_append, List.map_append]
      exact h1
/-- Cell i of the slice. -/
theorem Bytes.cells {w : World} {B g n cap : Nat} {l : List UInt8} (h : Bytes w B (.slice (some ⟨g, 0, none⟩) n cap) l) (i : Nat) (hi : i < l.length) : w.cell? ⟨g, i, none⟩ = some (byteV (byteAt l i)) := by
  rcases h.2 with ⟨h1, _⟩ | ⟨g', cap', cur, h1, hb, hg, hnc, hcm, hcs, htake⟩
  · cases h1
  · simp only [Value.slice.injEq, Option.some.injEq, Addr.mk.injEq, and_true] at h1
    obtain ⟨rfl, rfl, rfl⟩ := h1
    rw [cell_of_row w g i cur 5 (0, 0) hg]
    rw [Nat.mul_one] at htake
    have e : (cur.toList.take l.length)[i]? = (l.map byteV)[i]? := by rw [htake]
    rw [List.getElem?_take_of_lt hi, List.getElem?_map, List.getElem?_eq_getElem hi, Array.getElem?_toList] at e
    rw [e]
    unfold byteAt
    rw [List.getD_eq_getElem?_getD, List.getElem?_eq_getElem hi]
    rfl
theorem Bytes.conv {w : World} {B g n cap : Nat} {l : List UInt8} (h : Bytes w B (.slice (some ⟨g, 0, none⟩) n cap) l) (hn : n = l.length) : (convert 24 9 (.slice (some ⟨g, 0, none⟩) n cap)).run Tryz.prog w = .ok (.string ⟨l.toArray⟩) w := by
  subst hn
  have hr := run_convert_bytes_arg w 24 5 Tryz.underlying24 Tryz.underlying5 g 0 l.length cap (l.map fun c => (c.toNat : Int)) (by simp) (fun i hi => by
    rw [Nat.zero_add, h.cells i hi]
    unfold byteAt byteV
    rw [List.getD_eq_getElem?_getD, List.getElem?_eq_getElem hi]
    simp [hi]) 9 Tryz.underlying9
  have e : strOfNums (l.map fun c => (c.toNat : Int)) = ⟨l.toArray⟩ := by
    simp only [strOfNums, List.map_map, Function.comp_def, Int.toNat_natCast]
    simp
  rw [hr, e]
end Go.Proofs.YtepgoehpjafbhaaGreatDoor
/-
  script's reader: escapes and quoted texts.
-/
namespace Go.Proofs.YtepgoehpjafbhaaGreatDoor
open Go.RowKit S
set_option linter.unusedVariables false
set_option linter.unusedSimpArgs false
def isPl (c : UInt8) : Bool := decide (32 ≤ c.toNat) && decide (c.toNat ≤ 126)
theorem isPlain_any (c : UInt8) (w : World) : Calls Tryz.prog 23 #[.int .u8 (c.toNat : Int)] w fun e w' => e = .returned (.bool (isPl c)) ∧ w' = w := by
  by_cases h1 : 32 ≤ c.toNat
  · have hd : decide ((32 : Int) ≤ (c.toNat : Int)) = true := decide_eq_true (by omega)
    have he : isPl c = decide ((c.toNat : Int) ≤ 126) := by
      unfold isPl
      rw [decide_eq_true h1, Bool.true_and]
      exact decide_eq_decide.2 (by omega)
    rw [he]
    clear he
    go_enter Tryz.func23, Tryz.ntmps23
    go_wp2
    go_ret
    exact ⟨rfl, rfl⟩
  · have hd : decide ((32 : Int) ≤ (c.toNat : Int)) = false := decide_eq_false (by omega)
    have he : isPl c = false := by
      unfold isPl
      rw [decide_eq_false h1, Bool.false_and]
    rw [he]
    clear he
    go_enter Tryz.func23, Tryz.ntmps23
    go_wp2
    go_ret
    exact ⟨rfl, rfl⟩
/-- The byte that an escape is, and what is left. -/
def escX : List UInt8 → Option (UInt8 × List UInt8)
  | u :: v :: r => if 0 ≤ valA u ∧ 0 ≤ valA v then some (byteA u v, r) else none
  | _ => none
def escA : List UInt8 → Option (UInt8 × List UInt8)
  | [] => none
  | c :: t => if c = 120 then escX t else if c = 34 ∨ c = 92 then some (c, t) else none
theorem escX_two (u v : UInt8) (r : List UInt8) : escX (u :: v :: r) = if 0 ≤ valA u ∧ 0 ≤ valA v then some (byteA u v, r) else none := rfl
theorem escA_cons (c : UInt8) (t : List UInt8) : escA (c :: t) = if c = 120 then escX t else if c = 34 ∨ c = 92 then some (c, t) else none := rfl
theorem escX_len {l r : List UInt8} {x : UInt8} (h : escX l = some (x, r)) : r.length < l.length := by
  match l, h with
  | [], h => cases h
  | [_], h => cases h
  | u :: v :: t, h =>
    rw [escX_two] at h
    split at h
    · injection h with h
      injection h with _ h
      subst h
      simp
      omega
    · cases h
theorem escA_len {l r : List UInt8} {x : UInt8} (h : escA l = some (x, r)) : r.length < l.length := by
  cases l with
  | nil => cases h
  | cons c t =>
    rw [escA_cons] at h
    split at h
    · have := escX_len h
      rw [List.length_cons]; omega
    · split at h
      · injection h with h
        injection h with _ h
        subst h
        simp
      · cases h
set_option maxRecDepth 100000 in
set_option maxHeartbeats 800000 in
theorem escaped_any (b : Nat) (l : List UInt8) (w : World) (hR : Rd w b l) :
    Calls Tryz.prog 137 #[.pointer (some ⟨b, 0, none⟩)] w fun e w' => Kp b b w w' ∧
      ((∃ x r, escA l = some (x, r) ∧ e = .returned (.int .u8 (x.toNat : Int)) ∧ Rd w' b r) ∨ (escA l = none ∧ Bad e)) := by
  cases l with
  | nil =>
    go_enter Tryz.func137, Tryz.ntmps137
    go_wp2_with fail
    refine (next_none b _ hR).mono ?_
    rintro e w1 ⟨rfl, rfl⟩
    go_wp2
    exact ⟨rfl, Kp.refl _ _ _, .inr ⟨rfl, rfl⟩⟩
  | cons c t =>
    obtain ⟨w1, hw1⟩ : ∃ x, w.setCell ⟨b, 0, none⟩ (.string (bs t)) = x := ⟨_, rfl⟩
    have HR1 : Hid (Rd w1 b t) := hide (by rw [← hw1]; exact hR.set t)
    have HK1 : Hid (Kp b b w w1) := hide (by rw [← hw1]; exact Kp.set _ _ _ (.inl rfl))
    have HW := hide hw1
    by_cases h120 : c = 120
    · have hd : ((c.toNat : Int) == 120) = true := by rw [h120]; rfl
      have HA : Hid (escA (c :: t) = escX t) := hide (by rw [escA_cons, if_pos h120])
      clear h120 hw1
      go_enter Tryz.func137, Tryz.ntmps137
      go_wp2_with fail
      refine (next_some b c t _ hR).mono ?_
      rintro e w2 ⟨rfl, rfl⟩
      rw [HW.out]
      go_wp2_with fail
      cases t with
      | nil =>
        refine (next_none b _ HR1.out).mono ?_
        rintro e w2 ⟨rfl, rfl⟩
        go_wp2
        exact ⟨rfl, HK1.out, .inr ⟨HA.out, rfl⟩⟩
      | cons u t =>
        obtain ⟨w2, hw2⟩ : ∃ x, w1.setCell ⟨b, 0, none⟩ (.string (bs t)) = x := ⟨_, rfl⟩
        have HR2 : Hid (Rd w2 b t) := hide (by rw [← hw2]; exact HR1.out.set t)
        have HK2 : Hid (Kp b b w w2) := hide (by rw [← hw2]; exact HK1.out.trans (Kp.set _ _ _ (.inl rfl)))
        have HW2 := hide hw2
        clear hw2
        refine (next_some b u t _ HR1.out).mono ?_
        rintro e w3 ⟨rfl, rfl⟩
        rw [HW2.out]
        go_wp2_with fail
        cases t with
        | nil =>
          refine (next_none b _ HR2.out).mono ?_
          rintro e w3 ⟨rfl, rfl⟩
          go_wp2
          exact ⟨rfl, HK2.out, .inr ⟨HA.out, rfl⟩⟩
        | cons v t =>
          obtain ⟨w3, hw3⟩ : ∃ x, w2.setCell ⟨b, 0, none⟩ (.string (bs t)) = x := ⟨_, rfl⟩
          have HR3 : Hid (Rd w3 b t) := hide (by rw [← hw3]; exact HR2.out.set t)
          have HK3 : Hid (Kp b b w w3) := hide (by rw [← hw3]; exact HK2.out.trans (Kp.set _ _ _ (.inl rfl)))
          have HW3 := hide hw3
          clear hw3
          refine (next_some b v t _ HR2.out).mono ?_
          rintro e w4 ⟨rfl, rfl⟩
          rw [HW3.out]
          go_wp2_with fail
          by_cases hok : 0 ≤ valA u ∧ 0 ≤ valA v
          · have HA2 : Hid (escA (c :: u :: v :: t) = some (byteA u v, t)) := hide (by rw [HA.out]; exact if_pos hok)
            refine (byteOf_yes u v _ hok.1 hok.2).mono ?_
            rintro e w4 ⟨rfl, rfl⟩
            go_wp2
            go_ret
            exact ⟨HK3.out, .inl ⟨_, _, HA2.out, rfl, HR3.out⟩⟩
          · have HA2 : Hid (escA (c :: u :: v :: t) = none) := hide (by rw [HA.out]; exact if_neg hok)
            refine (byteOf_no u v _ (by omega)).mono ?_
            rintro e w4 ⟨rfl, rfl⟩
            go_wp2
            exact ⟨rfl, HK3.out, .inr ⟨HA2.out, rfl⟩⟩
    · have hd : ((c.toNat : Int) == 120) = false := by rw [beq_eq_false_iff_ne]; exact fun e => h120 (u8_of_int c 120 e)
      by_cases h34 : c = 34
      · have hd2 : ((c.toNat : Int) == 34) = true := by rw [h34]; rfl
        have HA : Hid (escA (c :: t) = some (c, t)) := hide (by rw [escA_cons, if_neg h120, if_pos (.inl h34)])
        clear h120 hw1 h34
        go_enter Tryz.func137, Tryz.ntmps137
        go_wp2_with fail
        refine (next_some b c t _ hR).mono ?_
        rintro e w2 ⟨rfl, rfl⟩
        rw [HW.out]
        go_wp2
        go_ret
        exact ⟨HK1.out, .inl ⟨_, _, HA.out, rfl, HR1.out⟩⟩
      · have hd2 : ((c.toNat : Int) == 34) = false := by rw [beq_eq_false_iff_ne]; exact fun e => h34 (u8_of_int c 34 e)
        by_cases h92 : c = 92
        · have hd3 : ((c.toNat : Int) == 92) = true := by rw [h92]; rfl
          have HA : Hid (escA (c :: t) = some (c, t)) := hide (by rw [escA_cons, if_neg h120, if_pos (.inr h92)])
          clear h120 hw1 h34 h92
          go_enter Tryz.func137, Tryz.ntmps137
          go_wp2_with fail
          refine (next_some b c t _ hR).mono ?_
          rintro e w2 ⟨rfl, rfl⟩
          rw [HW.out]
          go_wp2
          go_ret
          exact ⟨HK1.out, .inl ⟨_, _, HA.out, rfl, HR1.out⟩⟩
        · have hd3 : ((c.toNat : Int) == 92) = false := by rw [beq_eq_false_iff_ne]; exact fun e => h92 (u8_of_int c 92 e)
          have HA : Hid (escA (c :: t) = none) := hide (by rw [escA_cons, if_neg h120, if_neg (by rintro (h | h) <;> contradiction)])
          clear h120 hw1 h34 h92
          go_enter Tryz.func137, Tryz.ntmps137
          go_wp2_with fail
          refine (next_some b c t _ hR).mono ?_
          rintro e w2 ⟨rfl, rfl⟩
          rw [HW.out]
          go_wp2
          exact ⟨rfl, HK1.out, .inr ⟨HA.out, rfl⟩⟩
end Go.Proofs.YtepgoehpjafbhaaGreatDoor
