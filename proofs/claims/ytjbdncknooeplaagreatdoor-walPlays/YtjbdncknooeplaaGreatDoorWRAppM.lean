import Derived.Test.YtjbdncknooeplaaGreatDoorWROpenK
import Derived.Test.YtjbdncknooeplaaGreatDoorWApp
namespace Go.Proofs.YtjbdncknooeplaaGreatDoor
open Go.RowKit Go.Maps
set_option linter.unusedVariables false
def dlayA (A:AD) (nm:Key) (s:ASeg) (fresh dead:Bool) (t:Key):Int×AD×Bool:=
 let r:=A.write (fileL nm s.num) s.size t
 if r.1≠0 then (r.1,r.2,r.1 == 9)
 else
  let q:=r.2.sync (fileL nm s.num)
  if q.1=0 then (0,q.2,dead)
  else
   let u:=if fresh=true then q.2.remove (fileL nm s.num) else q.2.trunc (fileL nm s.num) s.size
   (q.1,u.2,q.1 == 9 || u.1 != 0)
theorem count_codes (P:AP) (x:Int):(P.count x).1=0∨(P.count x).1=40∨((P.count x).1=9∧(P.count x).2.off=true):=by
 unfold AP.count
 split
 ·exact .inr (.inr ⟨rfl,rfl⟩)
 ·split
  ·by_cases h1:P.arm=1
   ·right;left;show (if P.arm=1 then (40:Int) else 0)=40;rw [if_pos h1]
   ·left;show (if P.arm=1 then (40:Int) else 0)=0;rw [if_neg h1]
  ·exact .inl rfl
theorem write_there {A:AD} {k t:Key} {a:Int} (h:(A.write k a t).1=0):(A.write k a t).2.pow.off=false→∃F,fget (A.write k a t).2.fs k=some F:=by
 intro hoff;unfold AD.write at h hoff ⊢
 split at h
 ·cases h
 rename_i h1
 rw [if_neg h1]
 split at h
 ·rename_i h2;exact absurd h h2
 rename_i h2
 rw [if_neg h2]
 split at h
 ·rename_i h3;exact absurd h h3
 rename_i h3
 rw [if_neg h3]
 cases hq:fget A.fs k with
 | some F=>exact ⟨_,fget_fset_same hq⟩
 | none=>exact ⟨_,fget_fput_same⟩
theorem dlay_eq {A:AD} {g:AL} {s:ASeg} {fresh:Bool} {t:Key}:dlayA A g.name.data.toList s fresh g.dead t=layA A g s fresh t:=by
 unfold dlayA layA;simp only
 by_cases h1:(A.write (fileL g.name.data.toList s.num) s.size t).1≠0
 ·rw [if_pos h1,if_pos h1]
 rw [if_neg h1,if_neg h1];obtain ⟨A1,hA1⟩:∃x,(A.write (fileL g.name.data.toList s.num) s.size t).2=x:=⟨_,rfl⟩
 have hw:(A.write (fileL g.name.data.toList s.num) s.size t).1=0:=by simpa using h1
 have hth:=write_there hw;rw [hA1] at hth ⊢;obtain ⟨k,hk⟩:∃x,fileL g.name.data.toList s.num=x:=⟨_,rfl⟩;unfold backA;rw [hk] at hth ⊢
 by_cases h2:(A1.sync k).1=0
 ·rw [if_pos h2,if_pos h2]
 rw [if_neg h2,if_neg h2]
 by_cases h40:(A1.sync k).1=40
 ·rw [if_pos h40,h40]
  cases fresh<;>simp
 ·rw [if_neg h40]
  have h9:(A1.sync k).1=9∧(A1.sync k).2.pow.off=true:=by
   unfold AD.sync at h2 h40 ⊢
   by_cases ho:A1.pow.off=true
   ·rw [if_pos ho];exact ⟨rfl,ho⟩
   ·rw [if_neg ho] at h2 h40 ⊢
    obtain ⟨F,hF⟩:=hth (by simpa using ho)
    rw [hF] at h2 h40 ⊢;simp only at h2 h40 ⊢
    by_cases hc:(A1.pow.count 2).1≠0
    ·rw [if_pos hc] at h2 h40 ⊢
     rcases count_codes A1.pow 2 with e | e | e
     ·exact absurd e hc
     ·exact absurd e h40
     ·exact e
    ·rw [if_neg hc] at h2
     exact absurd rfl h2
  obtain ⟨e9,off9⟩:=h9
  have hb:(if fresh=true then (A1.sync k).2.remove k else (A1.sync k).2.trunc k s.size).2=(A1.sync k).2:=by
   split
   ·unfold AD.remove;rw [if_pos off9]
   ·unfold AD.trunc;rw [if_pos off9]
  rw [hb,e9];rfl
theorem dlay_bad {A A1:AD} {nm FK t:Key} {s:ASeg} {fresh dead:Bool} {E1 ss:Int} (hf:fileL nm s.num=FK) (hs:s.size=ss) (h1:A.write FK ss t=(E1,A1)) (hz:E1≠0):dlayA A nm s fresh dead t=(E1,A1,E1 == 9):=by
 unfold dlayA;simp only;rw [hf,hs,h1,if_pos hz]
theorem dlay_back {A A1 A2 A3:AD} {nm FK t:Key} {s:ASeg} {fresh dead:Bool} {E2 U ss:Int} (hf:fileL nm s.num=FK) (hs:s.size=ss) (h1:A.write FK ss t=(0,A1)) (h2:A1.sync FK=(E2,A2)) (hz:E2≠0) (hu:(if fresh=true then A2.remove FK else A2.trunc FK ss)=(U,A3)):dlayA A nm s fresh dead t=(E2,A3,E2 == 9 || U != 0):=by
 unfold dlayA;simp only;rw [hf,hs,h1];simp only [ne_eq,not_true_eq_false,if_false];rw [h2];simp only;rw [if_neg hz,hu]
theorem dlay_ok {A A1 A2:AD} {nm FK t:Key} {s:ASeg} {fresh dead:Bool} {ss:Int} (hf:fileL nm s.num=FK) (hs:s.size=ss) (h1:A.write FK ss t=(0,A1)) (h2:A1.sync FK=(0,A2)):dlayA A nm s fresh dead t=(0,A2,dead):=by
 unfold dlayA;simp only;rw [hf,hs,h1];simp only [ne_eq,not_true_eq_false,if_false];rw [h2]
 simp
end Go.Proofs.YtjbdncknooeplaaGreatDoor
