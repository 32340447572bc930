/-
  Several disks and lists side by side: what one call turns, the others keep.
-/
import Derived.Test.YtlkimfmilccanaaGreatCrash
import Derived.Test.YtlkimfmilccanaaGreatCopyD
namespace Go.Proofs.YtlkimfmilccanaaGreat
open Go.RowKit Go.Maps Go.WideMaps
set_option linter.unusedVariables false
structure Item where
  P : World → (Nat → Prop) → Prop
  lt : ∀ w S, P w S → ∀ b, S b → b < w.heap.size
  same : ∀ w w' S, P w S → (∀ b, S b → w'.heap[b]? = w.heap[b]?) → P w' S
theorem row_same {w w' : World} {base e size n : Nat} {v : Value} {xs : List Value} (h : w.ownsRow base e size v n xs) (he : ∀ b, v.ownBlock = some b → w'.heap[b]? = w.heap[b]?) : w'.ownsRow base e size v n xs := by
  refine ⟨h.1, ?_⟩
  rcases h.2 with hn | ⟨g, cap, cur, rfl, hb, hg, rest⟩
  · exact .inl hn
  · exact .inr ⟨g, cap, cur, rfl, hb, by rw [he g rfl]; exact hg, rest⟩
def Item.disk (p : Nat) (A : AD) : Item := ⟨fun w S => Disk w p A S, fun w S h => h.lt, fun w w' S ⟨m, con, h, hS⟩ e => ⟨m, con, h.same (fun b hb => e b ((hS b).2 hb)), hS⟩⟩
def Item.row (e : TypeId) (v : Value) (xs : List Value) : Item := ⟨fun w S => w.ownsRow 0 e 1 v xs.length xs ∧ ∀ b, S b ↔ v.ownBlock = some b, fun w S h b hb => (World.ownsRow.lt h.1 b ((h.2 b).1 hb)).2, fun w w' S h e => ⟨row_same h.1 (fun b hb => e b ((h.2 b).2 hb)), h.2⟩⟩
/-- A block that is held as it is. -/
def Item.block (g : Nat) (ob : Obj) : Item := ⟨fun w S => w.heap[g]? = some ob ∧ ∀ b, S b ↔ b = g, fun w S h b hb => by rw [(h.2 b).1 hb]; exact lt_of_some h.1, fun w w' S h e => ⟨by rw [e g ((h.2 g).2 rfl)]; exact h.1, h.2⟩⟩
structure Lies (B : Nat) (w : World) (L : List Item) : Prop where
  base : B ≤ w.heap.size
  at_ : ∃ S : Nat → Nat → Prop, (∀ i (it : Item), L[i]? = some it → it.P w (S i)) ∧ (∀ i b, i < L.length → S i b → B ≤ b) ∧ (∀ i j b, i < L.length → j < L.length → i ≠ j → S i b → ¬ S j b)
section
variable {B : Nat} {w w' : World} {L M : List Item} {it it' : Item} {i : Nat}
theorem Lies.nil (h : B ≤ w.heap.size) : Lies B w [] := ⟨h, fun _ _ => False, by simp, by simp, by simp⟩
theorem Lies.same (h : Lies B w L) (hs : w.heap.size ≤ w'.heap.size) (e : ∀ b, b < w.heap.size → B ≤ b → w'.heap[b]? = w.heap[b]?) : Lies B w' L := by
  obtain ⟨hb, S, h1, h2, h3⟩ := h
  refine ⟨Nat.le_trans hb hs, S, fun i it hi => ?_, h2, h3⟩
  have hl := (List.getElem?_eq_some_iff.1 hi).1
  exact it.same _ _ _ (h1 i it hi) (fun b hb => e b (it.lt _ _ (h1 i it hi) b hb) (h2 i b hl hb))
theorem Lies.below (h : Lies B w L) (hb : Below w.heap.size w w') : Lies B w' L := h.same hb.size (fun b hl _ => hb.block b hl)
theorem Lies.drop (h : Lies B w (L ++ M)) : Lies B w L := by
  obtain ⟨hb, S, h1, h2, h3⟩ := h
  exact ⟨hb, S, fun i it hi => h1 i it (by rw [List.getElem?_append_left (List.getElem?_eq_some_iff.1 hi).1]; exact hi), fun i b hi => h2 i b (by simp; omega), fun i j b hi hj => h3 i j b (by simp; omega) (by simp; omega)⟩
theorem Lies.get (h : Lies B w L) (hi : L[i]? = some it) : ∃ S, it.P w S ∧ (∀ b, S b → B ≤ b) := by
  obtain ⟨hb, S, h1, h2, h3⟩ := h
  exact ⟨S i, h1 i it hi, fun b => h2 i b (List.getElem?_eq_some_iff.1 hi).1⟩
theorem Lies.upd (h : Lies B w L) (hi : L[i]? = some it) : ∃ S, it.P w S ∧ (∀ b, S b → B ≤ b) ∧ (∀ j (x : Item), j ≠ i → L[j]? = some x → ∃ S2, x.P w S2 ∧ ∀ b, S b → ¬ S2 b) ∧ ∀ (w' : World) (it' : Item) (S' : Nat → Prop), it'.P w' S' → Step S S' w w' → Lies B w' (L.set i it') ∧ Below B w w' := by
  obtain ⟨hb, S, h1, h2, h3⟩ := h
  have hl := (List.getElem?_eq_some_iff.1 hi).1
  refine ⟨S i, h1 i it hi, fun b => h2 i b hl, fun j x hj hx => ⟨S j, h1 j x hx, fun b hb => h3 i j b hl (List.getElem?_eq_some_iff.1 hx).1 (fun e => hj e.symm) hb⟩, fun w' it' S' hp hs => ⟨⟨Nat.le_trans hb hs.turn.size, fun j => if j = i then S' else S j, fun j x hj => ?_, fun j b hj hS => ?_, fun j k b hj hk hne hS hS2 => ?_⟩, ⟨hs.turn.os, hs.turn.tape, hs.turn.output, hs.turn.size, fun b hlt => hs.turn.block b (by omega) (fun hx => by have := h2 i b hl hx; omega)⟩⟩⟩
  · by_cases e : j = i
    · subst e
      rw [List.getElem?_set_self hl] at hj
      simp only [if_true]
      cases hj
      exact hp
    · rw [List.getElem?_set_ne (fun x => e x.symm)] at hj
      simp only [if_neg e]
      refine x.same _ _ _ (h1 j x hj) (fun b hb => hs.turn.block b (x.lt _ _ (h1 j x hj) b hb) (fun hx => ?_))
      exact h3 j i b (List.getElem?_eq_some_iff.1 hj).1 hl e hb hx
  · rw [List.length_set] at hj
    by_cases e : j = i
    · subst e
      simp only [if_true] at hS
      rcases hs.own b hS with x | x
      · exact h2 j b hl x
      · omega
    · simp only [if_neg e] at hS
      exact h2 j b hj hS
  · rw [List.length_set] at hj hk
    have lt : ∀ j, j < L.length → ∀ b, S j b → b < w.heap.size := fun j hj b hb => (L[j]).lt _ _ (h1 j L[j] (List.getElem?_eq_getElem hj)) b hb
    by_cases e : j = i
    · subst e
      simp only [if_true] at hS
      rw [if_neg (fun x => hne x.symm)] at hS2
      rcases hs.own b hS with x | x
      · exact h3 j k b hj hk hne x hS2
      · have := lt k hk b hS2; omega
    · rw [if_neg e] at hS
      by_cases e2 : k = i
      · subst e2
        simp only [if_true] at hS2
        rcases hs.own b hS2 with x | x
        · exact h3 j k b hj hk hne hS x
        · have := lt j hj b hS; omega
      · rw [if_neg e2] at hS2
        exact h3 j k b hj hk hne hS hS2
theorem Lies.push {S' : Nat → Prop} (h : Lies B w L) (hb : Below w.heap.size w w') (hp : it.P w' S') (hn : ∀ b, S' b → w.heap.size ≤ b) : Lies B w' (L ++ [it]) := by
  have h' := h.below hb
  obtain ⟨hB, S, h1, h2, h3⟩ := h
  have lt : ∀ j, j < L.length → ∀ b, S j b → b < w.heap.size := fun j hj b hb => (L[j]).lt _ _ (h1 j L[j] (List.getElem?_eq_getElem hj)) b hb
  have same : ∀ i (it : Item), L[i]? = some it → it.P w' (S i) := fun i it hi => it.same _ _ _ (h1 i it hi) (fun b hx => hb.block b (lt i (List.getElem?_eq_some_iff.1 hi).1 b hx))
  refine ⟨h'.base, fun j => if j = L.length then S' else S j, fun j x hj => ?_, fun j b hj hS => ?_, fun j k b hj hk hne hS hS2 => ?_⟩
  · by_cases e : j = L.length
    · subst e
      simp only [if_true]
      rw [List.getElem?_append_right (Nat.le_refl _), Nat.sub_self] at hj
      simp at hj
      subst hj
      exact hp
    · simp only [if_neg e]
      have hjl : j < L.length := by have := (List.getElem?_eq_some_iff.1 hj).1; simp at this; omega
      rw [List.getElem?_append_left hjl] at hj
      exact same j x hj
  · replace hS : (if j = L.length then S' else S j) b := hS
    by_cases e : j = L.length
    · subst e
      simp only [if_true] at hS
      exact Nat.le_trans hB (hn b hS)
    · rw [if_neg e] at hS
      simp at hj
      exact h2 j b (by omega) hS
  · simp at hj hk
    replace hS : (if j = L.length then S' else S j) b := hS
    replace hS2 : (if k = L.length then S' else S k) b := hS2
    by_cases e : j = L.length
    · subst e
      simp only [if_true] at hS
      rw [if_neg (fun x : k = L.length => hne x.symm)] at hS2
      have := lt k (by omega) b hS2
      have := hn b hS
      omega
    · rw [if_neg e] at hS
      by_cases e2 : k = L.length
      · subst e2
        simp only [if_true] at hS2
        have := lt j (by omega) b hS
        have := hn b hS2
        omega
      · rw [if_neg e2] at hS2
        exact h3 j k b (by omega) (by omega) hne hS hS2
end
/-! ### calls on one of the disks -/
section
variable {B : Nat} {w : World} {L : List Item} {i p : Nat} {A A' : AD} {f : Nat} {args : Array Value} {R : Ending → Prop}
theorem Lies.ok (h : Lies B w L) (hi : L[i]? = some (.disk p A)) : A.Ok := by
  obtain ⟨S, hd, _⟩ := h.get hi
  exact Disk.ok hd
theorem Lies.call (h : Lies B w L) (hi : L[i]? = some (.disk p A)) (hc : ∀ m con, DiskAt w p m con A → (∀ b, foot p m con A.fs b → B ≤ b) → (∀ j (x : Item), j ≠ i → L[j]? = some x → ∃ S2, x.P w S2 ∧ ∀ b, foot p m con A.fs b → ¬ S2 b) → Calls Tryz.prog f args w fun e w' => R e ∧ ∃ con', DStep p m con A w con' A' w') :
    Calls Tryz.prog f args w fun e w' => R e ∧ Lies B w' (L.set i (.disk p A')) ∧ Below B w w' := by
  obtain ⟨S, hp, hB, hap, hk⟩ := h.upd hi
  obtain ⟨m, con, hat, hS⟩ := hp
  refine (hc m con hat (fun b hb => hB b ((hS b).2 hb)) (fun j x hj hx => by obtain ⟨S2, h1, h2⟩ := hap j x hj hx; exact ⟨S2, h1, fun b hb => h2 b ((hS b).2 hb)⟩)).mono ?_
  rintro e w' ⟨hR, con', hd, hs⟩
  refine ⟨hR, hk w' _ (foot p m con' A'.fs) ⟨m, con', hd, fun b => Iff.rfl⟩ ⟨⟨hs.turn.os, hs.turn.tape, hs.turn.output, hs.turn.size, fun b hb hn => hs.turn.block b hb (fun x => hn ((hS b).2 x))⟩, fun b hb => ?_⟩⟩
  rcases hs.own b hb with x | x
  · exact .inl ((hS b).2 x)
  · exact .inr x
theorem Lies.ask (h : Lies B w L) (hi : L[i]? = some (.disk p A)) (hc : ∀ m con, DiskAt w p m con A → Calls Tryz.prog f args w fun e w' => R e ∧ Below w.heap.size w w') :
    Calls Tryz.prog f args w fun e w' => R e ∧ Lies B w' L ∧ Below B w w' := by
  obtain ⟨S, ⟨m, con, hat, hS⟩, hB⟩ := h.get hi
  refine (hc m con hat).mono ?_
  rintro e w' ⟨hR, hb⟩
  exact ⟨hR, h.below hb, hb.mono h.base⟩
theorem s_write (h : Lies B w L) (hi : L[i]? = some (.disk p A)) (s : ByteArray) (hs : s.size ≤ maxLen) (a : Int) (ha : -9223372036854775808 ≤ a ∧ a < 9223372036854775808) (t : ByteArray) (ht : t.size ≤ 140737488355328) :
    Calls Tryz.prog 18 #[.pointer (some ⟨p, 0, none⟩), .string s, .int .i64 a, .string t] w fun e w' => e = .returned (.int .i64 (A.write s.data.toList a t.data.toList).1) ∧ Lies B w' (L.set i (.disk p (A.write s.data.toList a t.data.toList).2)) ∧ Below B w w' :=
  h.call (R := fun e => e = _) hi (fun m con hat _ _ => write_any p m con A w hat s hs a ha t ht)
theorem s_sync (h : Lies B w L) (hi : L[i]? = some (.disk p A)) (s : ByteArray) (hs : s.size ≤ maxLen) :
    Calls Tryz.prog 39 #[.pointer (some ⟨p, 0, none⟩), .string s] w fun e w' => e = .returned (.int .i64 (A.sync s.data.toList).1) ∧ Lies B w' (L.set i (.disk p (A.sync s.data.toList).2)) ∧ Below B w w' :=
  h.call (R := fun e => e = _) hi (fun m con hat _ _ => sync_any p m con A w hat s hs)
theorem s_trunc (h : Lies B w L) (hi : L[i]? = some (.disk p A)) (s : ByteArray) (hs : s.size ≤ maxLen) (n : Int) :
    Calls Tryz.prog 59 #[.pointer (some ⟨p, 0, none⟩), .string s, .int .i64 n] w fun e w' => e = .returned (.int .i64 (A.trunc s.data.toList n).1) ∧ Lies B w' (L.set i (.disk p (A.trunc s.data.toList n).2)) ∧ Below B w w' :=
  h.call (R := fun e => e = _) hi (fun m con hat _ _ => trunc_any p m con A w hat s hs n)
theorem s_rename (h : Lies B w L) (hi : L[i]? = some (.disk p A)) (s : ByteArray) (hs : s.size ≤ maxLen) (t : ByteArray) (ht : t.size ≤ maxLen) :
    Calls Tryz.prog 66 #[.pointer (some ⟨p, 0, none⟩), .string s, .string t] w fun e w' => e = .returned (.int .i64 (A.rename s.data.toList t.data.toList).1) ∧ Lies B w' (L.set i (.disk p (A.rename s.data.toList t.data.toList).2)) ∧ Below B w w' :=
  h.call (R := fun e => e = _) hi (fun m con hat _ _ => rename_any p m con A w hat s hs t ht)
theorem s_remove (h : Lies B w L) (hi : L[i]? = some (.disk p A)) (s : ByteArray) (hs : s.size ≤ maxLen) :
    Calls Tryz.prog 65 #[.pointer (some ⟨p, 0, none⟩), .string s] w fun e w' => e = .returned (.int .i64 (A.remove s.data.toList).1) ∧ Lies B w' (L.set i (.disk p (A.remove s.data.toList).2)) ∧ Below B w w' :=
  h.call (R := fun e => e = _) hi (fun m con hat _ _ => remove_any p m con A w hat s hs)
theorem s_arm (h : Lies B w L) (hi : L[i]? = some (.disk p A)) (n x : Int) (hn : -9223372036854775808 ≤ n ∧ n < 9223372036854775808) :
    Calls Tryz.prog 23 #[.pointer (some ⟨p, 0, none⟩), .int .i64 n, .int .i64 x] w fun e w' => e = .returned (.tuple #[]) ∧ Lies B w' (L.set i (.disk p (A.armed n x))) ∧ Below B w w' :=
  h.call (R := fun e => e = _) hi (fun m con hat _ _ => (arm_any p m con A w hat n x hn).mono (fun e w' ⟨he, hd, ht⟩ => ⟨he, con, DStep.pow hd (by unfold AD.armed; split <;> rfl) ht⟩))
theorem s_fall (h : Lies B w L) (hi : L[i]? = some (.disk p A)) (n : Int) (hn : -9223372036854775808 ≤ n ∧ n < 9223372036854775808) :
    Calls Tryz.prog 24 #[.pointer (some ⟨p, 0, none⟩), .int .i64 n] w fun e w' => e = .returned (.tuple #[]) ∧ Lies B w' (L.set i (.disk p (A.fallen n))) ∧ Below B w w' :=
  h.call (R := fun e => e = _) hi (fun m con hat _ _ => (fall_any p m con A w hat n hn).mono (fun e w' ⟨he, hd, ht⟩ => ⟨he, con, DStep.pow hd rfl ht⟩))
theorem s_crash (h : Lies B w L) (hi : L[i]? = some (.disk p A)) (ad : Option Addr) (ls : List FT) (cap : Nat) (hfa : FatesAt w ad ls) (hok : ∀ x ∈ ls, x.Ok) (hl : ls.length ≤ 9223372036854775807) (hB : ls ≠ [] → ∀ b o, ad = some ⟨b, o, none⟩ → b < B) :
    Calls Tryz.prog 25 #[.pointer (some ⟨p, 0, none⟩), .slice ad ls.length cap] w fun e w' => e = .returned (.tuple #[]) ∧ Lies B w' (L.set i (.disk p (A.crash (ls.map FT.abs)))) ∧ Below B w w' :=
  h.call (R := fun e => e = _) hi (fun m con hat hf _ => crash_any p m con A w hat ad ls cap hfa hok hl (fun hne b o ha hx => by have := hf b hx; have := hB hne b o ha; omega))
theorem s_crashOwn (h : Lies B w L) (hi : L[i]? = some (.disk p A)) {j g : Nat} {ob : Obj} (hij : j ≠ i) (hj : L[j]? = some (.block g ob)) (o : Nat) (ls : List FT) (cap : Nat) (hfa : FatesAt w (some ⟨g, o, none⟩) ls) (hok : ∀ x ∈ ls, x.Ok) (hl : ls.length ≤ 9223372036854775807) :
    Calls Tryz.prog 25 #[.pointer (some ⟨p, 0, none⟩), .slice (some ⟨g, o, none⟩) ls.length cap] w fun e w' => e = .returned (.tuple #[]) ∧ Lies B w' (L.set i (.disk p (A.crash (ls.map FT.abs)))) ∧ Below B w w' :=
  h.call (R := fun e => e = _) hi (fun m con hat _ hap => crash_any p m con A w hat _ ls cap hfa hok hl (fun _ b o' ha hx => by
    obtain ⟨S2, ⟨_, h1⟩, h2⟩ := hap j _ hij hj
    cases ha
    exact h2 _ hx ((h1 _).2 rfl)))
theorem s_crash0 (h : Lies B w L) (hi : L[i]? = some (.disk p A)) :
    Calls Tryz.prog 25 #[.pointer (some ⟨p, 0, none⟩), .slice none 0 0] w fun e w' => e = .returned (.tuple #[]) ∧ Lies B w' (L.set i (.disk p (A.crash []))) ∧ Below B w w' :=
  s_crash h hi none [] 0 (.inl rfl) (by simp) (by decide) (by simp)
theorem s_on (h : Lies B w L) (hi : L[i]? = some (.disk p A)) :
    Calls Tryz.prog 26 #[.pointer (some ⟨p, 0, none⟩)] w fun e w' => e = .returned (.tuple #[]) ∧ Lies B w' (L.set i (.disk p A.on)) ∧ Below B w w' :=
  h.call (R := fun e => e = _) hi (fun m con hat _ _ => on_any p m con A w hat)
theorem s_read (h : Lies B w L) (hi : L[i]? = some (.disk p A)) (s : ByteArray) (hs : s.size ≤ maxLen) (a n : Int) :
    Calls Tryz.prog 12 #[.pointer (some ⟨p, 0, none⟩), .string s, .int .i64 a, .int .i64 n] w fun e w' => e = .returned (.tuple #[.string ⟨(A.read s.data.toList a n).1.toArray⟩, .int .i64 (A.read s.data.toList a n).2]) ∧ Lies B w' L ∧ Below B w w' :=
  h.ask (R := fun e => e = _) hi (fun m con hat => read_any p m con A w hat s hs a n)
theorem s_size (h : Lies B w L) (hi : L[i]? = some (.disk p A)) (s : ByteArray) (hs : s.size ≤ maxLen) :
    Calls Tryz.prog 32 #[.pointer (some ⟨p, 0, none⟩), .string s] w fun e w' => e = .returned (.tuple #[.int .i64 (A.size s.data.toList).1, .int .i64 (A.size s.data.toList).2]) ∧ w' = w := by
  obtain ⟨S, ⟨m, con, hat, hS⟩, hB⟩ := h.get hi
  exact (size_any p m con A w hat s hs).mono (fun e w' ⟨he, hr⟩ => ⟨hr, he⟩)
theorem s_off (h : Lies B w L) (hi : L[i]? = some (.disk p A)) :
    Calls Tryz.prog 28 #[.pointer (some ⟨p, 0, none⟩)] w fun e w' => e = .returned (.bool A.pow.off) ∧ w' = w := by
  obtain ⟨S, ⟨m, con, hat, hS⟩, hB⟩ := h.get hi
  exact (off_any p m con A w hat).mono (fun e w' ⟨he, hr⟩ => ⟨hr, he⟩)
theorem s_used (h : Lies B w L) (hi : L[i]? = some (.disk p A)) :
    Calls Tryz.prog 80 #[.pointer (some ⟨p, 0, none⟩)] w fun e w' => e = .returned (.int .i64 (fused A.fs : Int)) ∧ Lies B w' L ∧ Below B w w' :=
  h.ask (R := fun e => e = _) hi (fun m con hat => used_any p m con A w hat)
theorem Lies.told {e : TypeId} {xs : List Value} (h : Lies B w L) (hi : L[i]? = some (.disk p A)) (hc : ∀ m con, DiskAt w p m con A → Calls Tryz.prog f args w fun en w' => ∃ v, en = .returned v ∧ w'.ownsRow w.heap.size e 1 v xs.length xs ∧ Below w.heap.size w w') :
    Calls Tryz.prog f args w fun en w' => ∃ v, en = .returned v ∧ w'.ownsRow 0 e 1 v xs.length xs ∧ Lies B w' (L ++ [.row e v xs]) ∧ Below B w w' := by
  obtain ⟨S, ⟨m, con, hat, hS⟩, hB⟩ := h.get hi
  refine (hc m con hat).mono ?_
  rintro en w' ⟨v, rfl, hr, hb⟩
  have hr0 : w'.ownsRow 0 e 1 v xs.length xs := by
    refine ⟨hr.1, ?_⟩
    rcases hr.2 with x | ⟨g, cap, cur, hv, _, rest⟩
    · exact .inl x
    · exact .inr ⟨g, cap, cur, hv, Nat.zero_le _, rest⟩
  exact ⟨v, rfl, hr0, h.push (S' := fun b => v.ownBlock = some b) hb ⟨hr0, fun _ => Iff.rfl⟩ (fun b hb => (World.ownsRow.lt hr b hb).1), hb.mono h.base⟩
theorem s_list (h : Lies B w L) (hi : L[i]? = some (.disk p A)) :
    Calls Tryz.prog 33 #[.pointer (some ⟨p, 0, none⟩)] w fun e w' => ∃ v, e = .returned v ∧ w'.ownsRow 0 9 1 v (A.list.map encStr).length (A.list.map encStr) ∧ Lies B w' (L ++ [.row 9 v (A.list.map encStr)]) ∧ Below B w w' :=
  h.told hi (fun m con hat => by rw [List.length_map]; exact list_any p m con A w hat)
theorem s_dirty (h : Lies B w L) (hi : L[i]? = some (.disk p A)) (s : ByteArray) (hs : s.size ≤ maxLen) :
    Calls Tryz.prog 14 #[.pointer (some ⟨p, 0, none⟩), .string s] w fun e w' => ∃ v, e = .returned v ∧ w'.ownsRow 0 3 1 v ((A.dirtyI s.data.toList).map (Value.int .i64)).length ((A.dirtyI s.data.toList).map (Value.int .i64)) ∧ Lies B w' (L ++ [.row 3 v ((A.dirtyI s.data.toList).map (Value.int .i64))]) ∧ Below B w w' :=
  h.told hi (fun m con hat => by rw [List.length_map]; exact dirty_any p m con A w hat s hs)
-- left out in this seat: s_copy
end
end Go.Proofs.YtlkimfmilccanaaGreat
