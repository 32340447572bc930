import Derived.Test.YtjfbdnogkbhciaaGreatDoorCalls1
import Derived.Shelf.SortM.Plain
import Derived.Shelf.SortM.SortNone
import Derived.Shelf.SlIterI.Nil
import Derived.Ground.GgzProg
import Derived.Ground.SlgmProg
import Derived.Shelf.SlGeneric
import Derived.Test.YtjfbdnogkbhciaaGreatDoorProg
/-
  Rename.
-/
namespace Go.Proofs.YtjfbdnogkbhciaaGreatDoor
open Go.RowKit Go.Maps Go.WideMaps
set_option linter.unusedSimpArgs false
theorem DStep.ren {w w' : World} {p m : Nat} {con : Key → FC} {A : AD} {k k' : Key} {F : AF} (h : DiskAt w p m con A) (hk : fget A.fs k = some F) (hn : nameOk k' = true) (t : Turn (fun b => b = m) w w') {n : Nat}
    (hm : w'.ownsMap Tryz.prog 9 ptrElem m n (((fsD con A.fs).del (.string k)).put (.string k') (.lit (.int .i64 ((con k).g : Int))))) :
    DStep p m con A w (upd con k' (con k)) { A with fs := fput (fdel A.fs k) k' F } w' := by
  have hfk : ∀ x G, fget (fput (fdel A.fs k) k' F) x = some G → (x = k' ∧ G = F) ∨ (x ≠ k' ∧ x ≠ k ∧ fget A.fs x = some G) := fun x G hx => by
    by_cases e : x = k'
    · subst e
      rw [fget_fput_same] at hx
      exact .inl ⟨rfl, by simpa using hx.symm⟩
    · rw [fget_fput_ne e] at hx
      by_cases e2 : x = k
      · subst e2; rw [fget_fdel_same] at hx; cases hx
      · rw [fget_fdel_ne e2] at hx
        exact .inr ⟨e, e2, hx⟩
  have hmem : ∀ q ∈ fput (fdel A.fs k) k' F, q = (k', F) ∨ q ∈ A.fs := fun q hq => by
    rcases mem_fins.1 hq with e | hq
    · exact .inl e
    · exact .inr (List.mem_filter.1 (List.mem_filter.1 hq).1).1
  have hlen : (fput (fdel A.fs k) k' F).length ≤ 16 := by
    have h1 := fput_length (fs := fdel A.fs k) (k := k') (F := F)
    have h2 := fdel_some_length hk
    have h3 := h.ok.few
    omega
  refine ⟨⟨⟨h.ok.c0, h.ok.c1, fput_sorted (fdel_sorted h.ok.sorted), fun q hq => ?_, hlen, fun q hq => ?_, ?_, h.ok.pow⟩, ?_, ?_, fun x G hx => ?_, fun x G hx => ?_, fun x G y G' hx hy hxy b hb hb' => ?_⟩, t.mono (fun _ hb => .inr (.inl hb)), fun b hb => ?_⟩
  · rcases hmem q hq with rfl | hq
    · exact hn
    · exact h.ok.names q hq
  · rcases hmem q hq with rfl | hq
    · exact (h.file k F hk).ok
    · exact h.ok.files q hq
  · have h1 := fused_fdel (apart_of h.ok.sorted) hk
    have h2 := fused_fdel_le (fs := fdel A.fs k) (k := k')
    have h3 := h.ok.space
    show (fused (fput (fdel A.fs k) k' F) : Int) ≤ A.cap
    unfold fput
    rw [fused_fins]
    simp only
    omega
  · rw [t.block p (lt_of_some h.cells) h.pm]; exact h.cells
  · rw [fsD_del] at hm
    have e := fsD_put (con := con) (con' := upd con k' (con k)) (fs := fdel A.fs k) (k := k') (F := F) (fun q _ hq => by rw [upd_ne _ _ hq])
    rw [upd_same] at e
    rw [e] at hm
    refine ownsMap_exact hm ?_
    rw [fsD_size]
    exact hlen
  · rcases hfk x G hx with ⟨rfl, rfl⟩ | ⟨e, _, hx⟩
    · rw [upd_same]
      exact (h.file k G hk).turn t (fun b hb e' => (h.pf k G hk).2 (e' ▸ hb))
    · rw [upd_ne _ _ e]
      exact (h.file x G hx).turn t (fun b hb e' => (h.pf x G hx).2 (e' ▸ hb))
  · rcases hfk x G hx with ⟨rfl, rfl⟩ | ⟨e, _, hx⟩
    · rw [upd_same]; exact h.pf k G hk
    · rw [upd_ne _ _ e]; exact h.pf x G hx
  · rcases hfk x G hx with ⟨ex, eG⟩ | ⟨e, e2, hx2⟩
    · rcases hfk y G' hy with ⟨e', _⟩ | ⟨e', e3, hy2⟩
      · exact hxy (ex.trans e'.symm)
      · rw [ex, upd_same] at hb
        rw [upd_ne _ _ e'] at hb'
        exact h.apart k F y G' hk hy2 (fun q => e3 q.symm) b hb hb'
    · rw [upd_ne _ _ e] at hb
      rcases hfk y G' hy with ⟨ey, _⟩ | ⟨e', e3, hy2⟩
      · rw [ey, upd_same] at hb'
        exact h.apart x G k F hx2 hk e2 b hb hb'
      · rw [upd_ne _ _ e'] at hb'
        exact h.apart x G y G' hx2 hy2 hxy b hb hb'
  · rcases hb with rfl | rfl | ⟨x, G, hx, hb⟩
    · exact .inl (.inl rfl)
    · exact .inl (.inr (.inl rfl))
    · rcases hfk x G hx with ⟨ex, _⟩ | ⟨e, _, hx⟩
      · rw [ex, upd_same] at hb
        exact .inl (.inr (.inr ⟨k, F, hk, hb⟩))
      · rw [upd_ne _ _ e] at hb
        exact .inl (.inr (.inr ⟨x, G, hx, hb⟩))
theorem rename_off {A : AD} {k k' : Key} (h : A.pow.off = true) : A.rename k k' = (9, A) := by unfold AD.rename; rw [if_pos h]
theorem rename_none {A : AD} {k k' : Key} (h : A.pow.off = false) (hk : fget A.fs k = none) : A.rename k k' = (5, A) := by unfold AD.rename; rw [if_neg (by rw [h]; simp), hk]
theorem rename_bad {A : AD} {k k' : Key} {F : AF} (h : A.pow.off = false) (hk : fget A.fs k = some F) (hc : nameOk k' = false) : A.rename k k' = (1, A) := by unfold AD.rename; rw [if_neg (by rw [h]; simp), hk]; simp only; rw [if_pos hc]
theorem rename_some {A : AD} {k k' : Key} {F : AF} (h : A.pow.off = false) (hk : fget A.fs k = some F) (hc : nameOk k' = true) : A.rename k k' = (0, { A with fs := fput (fdel A.fs k) k' F }) := by unfold AD.rename; rw [if_neg (by rw [h]; simp), hk]; simp only; rw [if_neg (by rw [hc]; simp)]
-- left out in this seat: rename_any
end Go.Proofs.YtjfbdnogkbhciaaGreatDoor
/-
  DERIVED: THE SHELF's CONTRACTS AT THIS DUMP, IN PLAIN WORDS (tools/lay-plain.mjs out of 'YtjfbdnogkbhciaaGreatDoorShelf0.lean', which tools/lay-shelf.mjs wrote): THE SAME DECLARATIONS UNDER THE SAME NAMES: 'import', 'namespace', 'open', 'def', 'theorem' AND NOTHING ELSE: no command of the shelf's: FOR A HAND-IN. Each laying: the table of numbers ('.._ren') and one theorem, a field a fact of the dump's own or the kernel's comparison; each contract: ONE APPLICATION.
-/
namespace Go.Proofs
open Go.Shelf
def Tryz.sortS_ren : Go.Shelf.Ren := ⟨fun | 6 => 87 | 8 => 123 | 9 => 122 | 19 => 149 | 20 => 150 | 21 => 140 | 22 => 141 | 23 => 142 | 24 => 143 | 25 => 144 | 26 => 145 | 27 => 146 | 28 => 147 | 29 => 148 | 36 => 176 | 31 => 177 | 32 => 178 | 37 => 179 | 38 => 180 | 39 => 181 | 41 => 208 | n => n, fun | 27 => 34 | 29 => 9 | 3 => 3 | 32 => 169 | 26 => 34 | 0 => 0 | 44 => 142 | 46 => 178 | 4 => 4 | 36 => 195 | 35 => 194 | 41 => 149 | 5 => 5 | 9 => 9 | 53 => 220 | 57 => 224 | 63 => 247 | 64 => 248 | n => n, fun | n => n⟩
theorem Tryz.sortS : Go.Proofs.SlLaysM.n6 Tryz.prog Tryz.sortS_ren := {
  mixed := by kernel_rfl
  f6 := ⟨Tryz.f87.name, by decide, Tryz.func87.trans (congrArg some (by kernel_rfl))⟩
  f8 := Tryz.func123.trans (congrArg some (by kernel_rfl))
  f9 := ⟨Tryz.f122.name, by decide, Tryz.func122.trans (congrArg some (by kernel_rfl))⟩
  f19 := Tryz.func149.trans (congrArg some (by kernel_rfl))
  f20 := Tryz.func150.trans (congrArg some (by kernel_rfl))
  f21 := ⟨Tryz.f140.name, by decide, Tryz.func140.trans (congrArg some (by kernel_rfl))⟩
  f22 := ⟨Tryz.f141.name, by decide, Tryz.func141.trans (congrArg some (by kernel_rfl))⟩
  f23 := ⟨Tryz.f142.name, by decide, Tryz.func142.trans (congrArg some (by kernel_rfl))⟩
  f24 := ⟨Tryz.f143.name, by decide, Tryz.func143.trans (congrArg some (by kernel_rfl))⟩
  f25 := ⟨Tryz.f144.name, by decide, Tryz.func144.trans (congrArg some (by kernel_rfl))⟩
  f26 := ⟨Tryz.f145.name, by decide, Tryz.func145.trans (congrArg some (by kernel_rfl))⟩
  f27 := ⟨Tryz.f146.name, by decide, Tryz.func146.trans (congrArg some (by kernel_rfl))⟩
  f28 := ⟨Tryz.f147.name, by decide, Tryz.func147.trans (congrArg some (by kernel_rfl))⟩
  f29 := ⟨Tryz.f148.name, by decide, Tryz.func148.trans (congrArg some (by kernel_rfl))⟩
  f31 := Tryz.func177.trans (congrArg some (by kernel_rfl))
  f32 := Tryz.func178.trans (congrArg some (by kernel_rfl))
  f36 := ⟨Tryz.f176.name, by decide, Tryz.func176.trans (congrArg some (by kernel_rfl))⟩
  f37 := ⟨Tryz.f179.name, by decide, Tryz.func179.trans (congrArg some (by kernel_rfl))⟩
  f38 := ⟨Tryz.f180.name, by decide, Tryz.func180.trans (congrArg some (by kernel_rfl))⟩
  f39 := ⟨Tryz.f181.name, by decide, Tryz.func181.trans (congrArg some (by kernel_rfl))⟩
  f41 := ⟨Tryz.f208.name, by decide, Tryz.func208.trans (congrArg some (by kernel_rfl))⟩
  t0 := Tryz.underlying0
  a0 := Tryz.isAgg0
  z0 := Tryz.sizeOf0
  v0 := Tryz.zeroValue0
  t3 := Tryz.underlying3
  a3 := Tryz.isAgg3
  z3 := Tryz.sizeOf3
  v3 := Tryz.zeroValue3
  t4 := Tryz.underlying4
  a4 := Tryz.isAgg4
  z4 := Tryz.sizeOf4
  v4 := Tryz.zeroValue4
  t5 := Tryz.underlying5
  a5 := Tryz.isAgg5
  z5 := Tryz.sizeOf5
  v5 := Tryz.zeroValue5
  t9 := Tryz.underlying9
  a9 := Tryz.isAgg9
  z9 := Tryz.sizeOf9
  v9 := Tryz.zeroValue9
  t26 := Tryz.underlying34
  a26 := Tryz.isAgg34
  z26 := Tryz.sizeOf34
  v26 := Tryz.zeroValue34
  t27 := Tryz.underlying34
  a27 := Tryz.isAgg34
  z27 := Tryz.sizeOf34
  v27 := Tryz.zeroValue34
  t29 := Tryz.underlying9
  a29 := Tryz.isAgg9
  z29 := Tryz.sizeOf9
  v29 := Tryz.zeroValue9
  t32 := Tryz.underlying169
  a32 := Tryz.isAgg169
  z32 := Tryz.sizeOf169
  v32 := Tryz.zeroValue169
  t35 := Tryz.underlying194
  a35 := Tryz.isAgg194
  z35 := Tryz.sizeOf194
  v35 := Tryz.zeroValue194
  t36 := Tryz.underlying195
  a36 := Tryz.isAgg195
  z36 := Tryz.sizeOf195
  v36 := Tryz.zeroValue195
  t41 := Tryz.underlying149
  a41 := Tryz.isAgg149
  z41 := Tryz.sizeOf149
  v41 := Tryz.zeroValue149
  t44 := Tryz.underlying142
  a44 := Tryz.isAgg142
  z44 := Tryz.sizeOf142
  v44 := Tryz.zeroValue142
  t46 := Tryz.underlying178
  a46 := Tryz.isAgg178
  z46 := Tryz.sizeOf178
  v46 := Tryz.zeroValue178
  t53 := Tryz.underlying220
  a53 := Tryz.isAgg220
  z53 := Tryz.sizeOf220
  v53 := Tryz.zeroValue220
  t57 := Tryz.underlying224
  a57 := Tryz.isAgg224
  z57 := Tryz.sizeOf224
  v57 := Tryz.zeroValue224
  t63 := Tryz.underlying247
  a63 := Tryz.isAgg247
  z63 := Tryz.sizeOf247
  v63 := Tryz.zeroValue247
  t64 := Tryz.underlying248
  a64 := Tryz.isAgg248
  z64 := Tryz.sizeOf248
  v64 := Tryz.zeroValue248 }
def Tryz.sortI_ren : Go.Shelf.Ren := ⟨fun | 5 => 152 | 8 => 123 | 7 => 183 | 19 => 149 | 20 => 150 | 10 => 209 | 11 => 210 | 12 => 211 | 13 => 212 | 14 => 213 | 15 => 214 | 16 => 215 | 17 => 216 | 18 => 217 | 30 => 231 | 31 => 177 | 32 => 178 | 33 => 232 | 34 => 233 | 35 => 134 | 40 => 240 | n => n, fun | 23 => 98 | 25 => 3 | 3 => 3 | 32 => 169 | 22 => 98 | 0 => 0 | 44 => 142 | 46 => 178 | 4 => 4 | 36 => 195 | 35 => 194 | 41 => 149 | 5 => 5 | 9 => 9 | 53 => 220 | 57 => 224 | 63 => 247 | 64 => 248 | n => n, fun | n => n⟩
theorem Tryz.sortI : Go.Proofs.SlLaysM.n5 Tryz.prog Tryz.sortI_ren := {
  mixed := by kernel_rfl
  f5 := ⟨Tryz.f152.name, by decide, Tryz.func152.trans (congrArg some (by kernel_rfl))⟩
  f7 := ⟨Tryz.f183.name, by decide, Tryz.func183.trans (congrArg some (by kernel_rfl))⟩
  f8 := Tryz.func123.trans (congrArg some (by kernel_rfl))
  f10 := ⟨Tryz.f209.name, by decide, Tryz.func209.trans (congrArg some (by kernel_rfl))⟩
  f11 := ⟨Tryz.f210.name, by decide, Tryz.func210.trans (congrArg some (by kernel_rfl))⟩
  f12 := ⟨Tryz.f211.name, by decide, Tryz.func211.trans (congrArg some (by kernel_rfl))⟩
  f13 := ⟨Tryz.f212.name, by decide, Tryz.func212.trans (congrArg some (by kernel_rfl))⟩
  f14 := ⟨Tryz.f213.name, by decide, Tryz.func213.trans (congrArg some (by kernel_rfl))⟩
  f15 := ⟨Tryz.f214.name, by decide, Tryz.func214.trans (congrArg some (by kernel_rfl))⟩
  f16 := ⟨Tryz.f215.name, by decide, Tryz.func215.trans (congrArg some (by kernel_rfl))⟩
  f17 := ⟨Tryz.f216.name, by decide, Tryz.func216.trans (congrArg some (by kernel_rfl))⟩
  f18 := ⟨Tryz.f217.name, by decide, Tryz.func217.trans (congrArg some (by kernel_rfl))⟩
  f19 := Tryz.func149.trans (congrArg some (by kernel_rfl))
  f20 := Tryz.func150.trans (congrArg some (by kernel_rfl))
  f30 := ⟨Tryz.f231.name, by decide, Tryz.func231.trans (congrArg some (by kernel_rfl))⟩
  f31 := Tryz.func177.trans (congrArg some (by kernel_rfl))
  f32 := Tryz.func178.trans (congrArg some (by kernel_rfl))
  f33 := ⟨Tryz.f232.name, by decide, Tryz.func232.trans (congrArg some (by kernel_rfl))⟩
  f34 := ⟨Tryz.f233.name, by decide, Tryz.func233.trans (congrArg some (by kernel_rfl))⟩
  f35 := ⟨Tryz.f134.name, by decide, Tryz.func134.trans (congrArg some (by kernel_rfl))⟩
  f40 := ⟨Tryz.f240.name, by decide, Tryz.func240.trans (congrArg some (by kernel_rfl))⟩
  t0 := Tryz.underlying0
  a0 := Tryz.isAgg0
  z0 := Tryz.sizeOf0
  v0 := Tryz.zeroValue0
  t3 := Tryz.underlying3
  a3 := Tryz.isAgg3
  z3 := Tryz.sizeOf3
  v3 := Tryz.zeroValue3
  t4 := Tryz.underlying4
  a4 := Tryz.isAgg4
  z4 := Tryz.sizeOf4
  v4 := Tryz.zeroValue4
  t5 := Tryz.underlying5
  a5 := Tryz.isAgg5
  z5 := Tryz.sizeOf5
  v5 := Tryz.zeroValue5
  t9 := Tryz.underlying9
  a9 := Tryz.isAgg9
  z9 := Tryz.sizeOf9
  v9 := Tryz.zeroValue9
  t22 := Tryz.underlying98
  a22 := Tryz.isAgg98
  z22 := Tryz.sizeOf98
  v22 := Tryz.zeroValue98
  t23 := Tryz.underlying98
  a23 := Tryz.isAgg98
  z23 := Tryz.sizeOf98
  v23 := Tryz.zeroValue98
  t25 := Tryz.underlying3
  a25 := Tryz.isAgg3
  z25 := Tryz.sizeOf3
  v25 := Tryz.zeroValue3
  t32 := Tryz.underlying169
  a32 := Tryz.isAgg169
  z32 := Tryz.sizeOf169
  v32 := Tryz.zeroValue169
  t35 := Tryz.underlying194
  a35 := Tryz.isAgg194
  z35 := Tryz.sizeOf194
  v35 := Tryz.zeroValue194
  t36 := Tryz.underlying195
  a36 := Tryz.isAgg195
  z36 := Tryz.sizeOf195
  v36 := Tryz.zeroValue195
  t41 := Tryz.underlying149
  a41 := Tryz.isAgg149
  z41 := Tryz.sizeOf149
  v41 := Tryz.zeroValue149
  t44 := Tryz.underlying142
  a44 := Tryz.isAgg142
  z44 := Tryz.sizeOf142
  v44 := Tryz.zeroValue142
  t46 := Tryz.underlying178
  a46 := Tryz.isAgg178
  z46 := Tryz.sizeOf178
  v46 := Tryz.zeroValue178
  t53 := Tryz.underlying220
  a53 := Tryz.isAgg220
  z53 := Tryz.sizeOf220
  v53 := Tryz.zeroValue220
  t57 := Tryz.underlying224
  a57 := Tryz.isAgg224
  z57 := Tryz.sizeOf224
  v57 := Tryz.zeroValue224
  t63 := Tryz.underlying247
  a63 := Tryz.isAgg247
  z63 := Tryz.sizeOf247
  v63 := Tryz.zeroValue247
  t64 := Tryz.underlying248
  a64 := Tryz.isAgg248
  z64 := Tryz.sizeOf248
  v64 := Tryz.zeroValue248 }
def Tryz.keysI_ren : Go.Shelf.Ren := ⟨fun | 7 => 125 | 10 => 153 | n => n, fun | 23 => 115 | 26 => 3 | 3 => 119 | 28 => 172 | 0 => 0 | 27 => 171 | 33 => 187 | 4 => 4 | n => n, fun | n => n⟩
theorem Tryz.keysI : Go.Proofs.SlLaysZI.n7 Tryz.prog Tryz.keysI_ren := {
  mixed := by kernel_rfl
  f7 := ⟨Tryz.f125.name, by decide, Tryz.func125.trans (congrArg some (by kernel_rfl))⟩
  f10 := ⟨Tryz.f153.name, by decide, Tryz.func153.trans (congrArg some (by kernel_rfl))⟩
  t0 := Tryz.underlying0
  a0 := Tryz.isAgg0
  z0 := Tryz.sizeOf0
  v0 := Tryz.zeroValue0
  t4 := Tryz.underlying4
  a4 := Tryz.isAgg4
  z4 := Tryz.sizeOf4
  v4 := Tryz.zeroValue4
  t23 := Tryz.underlying115
  a23 := Tryz.isAgg115
  z23 := Tryz.sizeOf115
  v23 := Tryz.zeroValue115
  t26 := Tryz.underlying3
  a26 := Tryz.isAgg3
  z26 := Tryz.sizeOf3
  v26 := Tryz.zeroValue3
  t27 := Tryz.underlying171
  a27 := Tryz.isAgg171
  z27 := Tryz.sizeOf171
  v27 := Tryz.zeroValue171
  t28 := Tryz.underlying172
  a28 := Tryz.isAgg172
  z28 := Tryz.sizeOf172
  v28 := Tryz.zeroValue172
  t33 := Tryz.underlying187
  a33 := Tryz.isAgg187
  z33 := Tryz.sizeOf187
  v33 := Tryz.zeroValue187 }
def Tryz.sortedI_ren : Go.Shelf.Ren := ⟨fun | 6 => 124 | 8 => 151 | 9 => 152 | 11 => 182 | 13 => 123 | 12 => 183 | 23 => 149 | 24 => 150 | 14 => 209 | 15 => 210 | 16 => 211 | 17 => 212 | 18 => 213 | 19 => 214 | 20 => 215 | 21 => 216 | 22 => 217 | 25 => 231 | 26 => 177 | 27 => 178 | 28 => 232 | 29 => 233 | 30 => 134 | 31 => 240 | n => n, fun | 26 => 3 | 28 => 172 | 24 => 98 | 0 => 0 | 3 => 3 | 37 => 169 | 48 => 142 | 50 => 178 | 4 => 4 | 40 => 195 | 39 => 194 | 45 => 149 | 5 => 5 | 9 => 9 | 51 => 220 | 55 => 224 | 57 => 247 | 58 => 248 | 33 => 187 | n => n, fun | n => n⟩
theorem Tryz.sortedI : Go.Proofs.SlLaysZI.n6 Tryz.prog Tryz.sortedI_ren := {
  mixed := by kernel_rfl
  f6 := ⟨Tryz.f124.name, by decide, Tryz.func124.trans (congrArg some (by kernel_rfl))⟩
  f8 := ⟨Tryz.f151.name, by decide, Tryz.func151.trans (congrArg some (by kernel_rfl))⟩
  f11 := ⟨Tryz.f182.name, by decide, Tryz.func182.trans (congrArg some (by kernel_rfl))⟩
  t0 := Tryz.underlying0
  a0 := Tryz.isAgg0
  z0 := Tryz.sizeOf0
  v0 := Tryz.zeroValue0
  t24 := Tryz.underlying98
  a24 := Tryz.isAgg98
  z24 := Tryz.sizeOf98
  v24 := Tryz.zeroValue98
  t26 := Tryz.underlying3
  a26 := Tryz.isAgg3
  z26 := Tryz.sizeOf3
  v26 := Tryz.zeroValue3
  t28 := Tryz.underlying172
  a28 := Tryz.isAgg172
  z28 := Tryz.sizeOf172
  v28 := Tryz.zeroValue172
  i26 := by kernel_rfl }
end Go.Proofs
