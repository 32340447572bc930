/-
  The stable sort: two ranges exchanged.
-/
import Derived.Test.YtbeoojnofblnjaaGPT
namespace Go.Proofs.Ytbeoojnofblnjaa
open Go.RowKit S Go.Shelf Go.Sort
set_option linter.unusedVariables false
set_option linter.unusedSimpArgs false
/-- What the walks over the row know once. -/
abbrev PRow (k : Nat) := RowK (α := Pen) Pen.enc k
abbrev PSW (k : Nat) := SWK (α := Pen) Pen.enc k
theorem PT.len {P : Program} {k : Nat} (L : PT P k) (x : Pen) : x.enc.length = k := by rw [L.hk]; exact x.enc_len
def byID : Value := .func (.func 30) #[] #[]
theorem take_drop_get {α : Type} (l : List α) (i : Nat) (h : i < l.length) : ∃ x, l[i]? = some x ∧ l.drop i = x :: l.drop (i + 1) ∧ l.take (i + 1) = l.take i ++ [x] :=
  ⟨l[i], List.getElem?_eq_getElem h, List.drop_eq_getElem_cons h, List.take_succ_eq_append_getElem h⟩
theorem swapped_next {dk : Array Pen} {X P Z Q Y : List Pen} {i p q : Nat} (h : dk.toList = X ++ (Q.take i ++ (P.drop i ++ (Z ++ (P.take i ++ (Q.drop i ++ Y)))))) (hPQ : P.length = Q.length) (hi : i < P.length) (hp : p = X.length + i) (hq : q = X.length + P.length + Z.length + i) :
    (swp dk p q).toList = X ++ (Q.take (i + 1) ++ (P.drop (i + 1) ++ (Z ++ (P.take (i + 1) ++ (Q.drop (i + 1) ++ Y))))) := by
  obtain ⟨x, hx, dx, tx⟩ := take_drop_get P i hi
  obtain ⟨y, hy, dy, ty⟩ := take_drop_get Q i (by omega)
  have h' : dk.toList = (X ++ Q.take i) ++ (x :: ((P.drop (i + 1) ++ (Z ++ P.take i)) ++ (y :: (Q.drop (i + 1) ++ Y)))) := by
    rw [h, dx, dy]; simp [List.append_assoc]
  rw [swp_list h' p q (by simp; omega) (by simp; omega), tx, ty]
  simp [List.append_assoc]
set_option maxRecDepth 100000 in
set_option maxHeartbeats 4000000 in
theorem swapRange_any (P : Program) (k : Nat) (L : PT P k) (w0 : World) (blk off N cap : Nat) (d0 dk : Array Pen) (hN : d0.size = N) (hz : N ≤ 4000000000000) (R : PRow k w0 blk off d0) (w : World) (S : PSW k w0 blk off dk w) (hs : dk.size = N) (X PP Z Q Y : List Pen) (hl : dk.toList = X ++ (PP ++ (Z ++ (Q ++ Y)))) (hPQ : PP.length = Q.length) (a b n : Nat) (ha : a = X.length) (hb : b = X.length + PP.length + Z.length) (hn : n = PP.length) :
    Calls P 37 #[.slice (some ⟨blk, off, none⟩) N cap, .int .i64 (a : Int), .int .i64 (b : Int), .int .i64 (n : Int), byID] w fun e w' => e = .returned (.tuple #[]) ∧ ∃ dk', PSW k w0 blk off dk' w' ∧ dk'.size = N ∧ dk'.toList = X ++ (Q ++ (Z ++ (PP ++ Y))) := by
  have hlen : N = X.length + (PP.length + (Z.length + (Q.length + Y.length))) := by rw [← hs, size_of hl]; simp
  have S0 : Aside (PSW k w0 blk off dk w) := S
  have HL := hide hl
  have HN := hide hN
  have hbn : b + n ≤ N := by omega
  have han : a + n ≤ N := by omega
  have hab : a + n ≤ b := by omega
  have HA := hide ha
  have HB := hide hb
  have HNn := hide hn
  have HPQ := hide hPQ
  have hs0 := hide hs
  unfold byID
  have mixed := L.mixed; have t0 := L.t0; have a0 := L.a0; have z0 := L.z0; have v0 := L.v0; have t3 := L.t3; have a3 := L.a3; have z3 := L.z3; have v3 := L.v3; have t4 := L.t4; have a4 := L.a4; have z4 := L.z4; have v4 := L.v4; have tS := L.tS; have aS := L.aS; have zS := L.zS; have vS := L.vS; have tF := L.tF; have aF := L.aF; have zF := L.zF; have vF := L.vF; have aE := L.aE; have zE := L.zE; have uS := run_underlying L.tS
  clear S hl hN hs ha hb hPQ hlen
  go_enter L.fSwp, Try.ntmps37
  go_wp2
  go_loopg [10] n (fun kx s10 wr => ∃ (i : Nat) (dj : Array Pen), s10 = .int .i64 (i : Int) ∧ i ≤ n ∧ n - i ≤ kx ∧ Aside (PSW k w0 blk off dj wr) ∧ Hid (dj.size = N) ∧ Hid (dj.toList = X ++ (Q.take i ++ (PP.drop i ++ (Z ++ (PP.take i ++ (Q.drop i ++ Y)))))))
  case atStart => exact ⟨0, dk, rfl, Nat.zero_le _, by omega, S0, hs0, by simpa [Hid] using HL.out⟩
  case round =>
    clear S0 hs0
    obtain ⟨i, dj, rfl, hin, hkx, S1, hs1, hl1⟩ := hrel
    by_cases hlt : i < n
    · have hd : decide ((i : Int) < (n : Int)) = true := decide_eq_true (by omega)
      have hd2 : decide (i < n) = true := decide_eq_true hlt
      obtain ⟨p, hp⟩ : ∃ p, a + i = p := ⟨_, rfl⟩
      obtain ⟨q, hq⟩ : ∃ q, b + i = q := ⟨_, rfl⟩
      have ep : (a : Int) + (i : Int) = (p : Int) := by omega
      have eq : (b : Int) + (i : Int) = (q : Int) := by omega
      have rp : IntKind.i64.wrap (p : Int) = (p : Int) := by rw [IntKind.wrap_i64]; omega
      have rq : IntKind.i64.wrap (q : Int) = (q : Int) := by rw [IntKind.wrap_i64]; omega
      have pp : (0 : Int) ≤ (p : Int) := by omega
      have pq : (0 : Int) ≤ (q : Int) := by omega
      have bp : (p : Int) < (N : Int) := by omega
      have bq : (q : Int) < (N : Int) := by omega
      have hpd : p < dj.size := by rw [hs1.out]; omega
      have hqd : q < dj.size := by rw [hs1.out]; omega
      have hNs : dj.size = d0.size := by rw [hs1.out, HN.out]
      have S2 : Aside (PSW k w0 blk off (swp dj p q) ((wr.drew.setCells blk (off + p * k) dj[q]!.enc).setCells blk (off + q * k) dj[p]!.enc)) := S1.out.swapped R p q hpd hqd
      have la := S1.out.ld1 R hNs P p hpd
      have lb := S1.out.ld1 R hNs P q hqd
      have sa := S1.out.st1 R hNs P p hpd dj[q]!
      have sb := S1.out.st2 R hNs P p q hpd hqd dj[q]! dj[p]!
      have na : dj[p]!.enc.length = k := L.len _
      have nb : dj[q]!.enc.length = k := L.len _
      have NX : Hid ((swp dj p q).toList = X ++ (Q.take (i + 1) ++ (PP.drop (i + 1) ++ (Z ++ (PP.take (i + 1) ++ (Q.drop (i + 1) ++ Y)))))) := swapped_next hl1.out HPQ.out (by have := HNn.out; omega) (by have := HA.out; omega) (by have := HB.out; omega)
      have NS : Hid ((swp dj p q).size = N) := by show _ = _; rw [size_swp]; exact hs1.out
      generalize dj[p]!.enc = cI at S2 la sb na
      generalize dj[q]!.enc = cJ at S2 lb sa sb nb
      have HP := hide hp
      have HQ := hide hq
      clear S1 hp hq hpd hqd hNs hl1
      go_wp2_with fail
      go_big_region_o
      clear la lb sa sb
      generalize (wr.drew.setCells blk (off + p * k) cJ).setCells blk (off + q * k) cI = w2 at S2 ⊢
      clear ep eq rp rq
      go_wp2
      go_roundg (n - (i + 1))
      case measure => omega
      case rel => exact ⟨i + 1, swp dj p q, by go_num, by omega, Nat.le_refl _, S2, NS, NX⟩
    · have hd : decide ((i : Int) < (n : Int)) = false := decide_eq_false (by omega)
      have hd2 : decide (i < n) = false := decide_eq_false hlt
      have hi : i = n := by omega
      go_wp2
      go_end0
      refine ⟨rfl, dj, S1.out, hs1.out, ?_⟩
      have e := hl1.out
      rw [hi, HNn.out] at e
      rw [e, List.take_of_length_le (by have := HPQ.out; omega), List.drop_of_length_le (Nat.le_refl _), List.take_length, List.drop_of_length_le (by have := HPQ.out; omega)]
      simp
end Go.Proofs.Ytbeoojnofblnjaa
