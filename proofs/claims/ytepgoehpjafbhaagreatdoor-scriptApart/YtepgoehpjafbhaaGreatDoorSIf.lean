/-
  script: calls through the interface (printed by mkif.py).
-/
import Derived.Test.YtepgoehpjafbhaaGreatDoorSQt
namespace Go.Proofs.YtepgoehpjafbhaaGreatDoor
open Go.RowKit S
def rif (b : Nat) : Value := .iface 106 (.pointer (some ⟨b, 0, none⟩))
def wif (b : Nat) : Value := .iface 84 (.pointer (some ⟨b, 0, none⟩))
theorem Pan.normal {X : World → Prop} {Q : Exit → Act → World → Prop} {a : Act} {w : World} (h : Q .normal a w) : Pan X Q .normal a w := h
theorem mkF (fn : Fn) (first cap : Array Value) (w : World) : (Instr.makeFunc fn first cap).run Tryz.prog w = .ok (.func fn first cap) w := rfl
theorem rna_fates (b : Nat) (w : World) : (nilAhead 303 106 (.pointer (some ⟨b, 0, none⟩)) "escrow/script.fates").run Tryz.prog w = .ok (some false) w := by kernel_rfl
theorem rmt_fates (b : Nat) (w : World) : (method 303 106 (.pointer (some ⟨b, 0, none⟩)) "escrow/script.fates").run Tryz.prog w = .ok (124, .pointer (some ⟨b, 0, none⟩)) w := by kernel_rfl
theorem rna_hash (b : Nat) (w : World) : (nilAhead 303 106 (.pointer (some ⟨b, 0, none⟩)) "escrow/script.hash").run Tryz.prog w = .ok (some false) w := by kernel_rfl
theorem rmt_hash (b : Nat) (w : World) : (method 303 106 (.pointer (some ⟨b, 0, none⟩)) "escrow/script.hash").run Tryz.prog w = .ok (125, .pointer (some ⟨b, 0, none⟩)) w := by kernel_rfl
theorem rmt_head (b : Nat) (w : World) : (method 303 106 (.pointer (some ⟨b, 0, none⟩)) "escrow/script.head").run Tryz.prog w = .ok (126, .pointer (some ⟨b, 0, none⟩)) w := by kernel_rfl
theorem rna_name (b : Nat) (w : World) : (nilAhead 303 106 (.pointer (some ⟨b, 0, none⟩)) "escrow/script.name").run Tryz.prog w = .ok (some false) w := by kernel_rfl
theorem rmt_name (b : Nat) (w : World) : (method 303 106 (.pointer (some ⟨b, 0, none⟩)) "escrow/script.name").run Tryz.prog w = .ok (127, .pointer (some ⟨b, 0, none⟩)) w := by kernel_rfl
theorem rna_number (b : Nat) (w : World) : (nilAhead 303 106 (.pointer (some ⟨b, 0, none⟩)) "escrow/script.number").run Tryz.prog w = .ok (some false) w := by kernel_rfl
theorem rmt_number (b : Nat) (w : World) : (method 303 106 (.pointer (some ⟨b, 0, none⟩)) "escrow/script.number").run Tryz.prog w = .ok (128, .pointer (some ⟨b, 0, none⟩)) w := by kernel_rfl
theorem rna_quoted (b : Nat) (w : World) : (nilAhead 303 106 (.pointer (some ⟨b, 0, none⟩)) "escrow/script.quoted").run Tryz.prog w = .ok (some false) w := by kernel_rfl
theorem rmt_quoted (b : Nat) (w : World) : (method 303 106 (.pointer (some ⟨b, 0, none⟩)) "escrow/script.quoted").run Tryz.prog w = .ok (129, .pointer (some ⟨b, 0, none⟩)) w := by kernel_rfl
theorem rna_whole (b : Nat) (w : World) : (nilAhead 303 106 (.pointer (some ⟨b, 0, none⟩)) "escrow/script.whole").run Tryz.prog w = .ok (some false) w := by kernel_rfl
theorem rmt_whole (b : Nat) (w : World) : (method 303 106 (.pointer (some ⟨b, 0, none⟩)) "escrow/script.whole").run Tryz.prog w = .ok (130, .pointer (some ⟨b, 0, none⟩)) w := by kernel_rfl
theorem wna_fates (b : Nat) (w : World) : (nilAhead 303 84 (.pointer (some ⟨b, 0, none⟩)) "escrow/script.fates").run Tryz.prog w = .ok (some false) w := by kernel_rfl
theorem wmt_fates (b : Nat) (w : World) : (method 303 84 (.pointer (some ⟨b, 0, none⟩)) "escrow/script.fates").run Tryz.prog w = .ok (94, .pointer (some ⟨b, 0, none⟩)) w := by kernel_rfl
theorem wna_hash (b : Nat) (w : World) : (nilAhead 303 84 (.pointer (some ⟨b, 0, none⟩)) "escrow/script.hash").run Tryz.prog w = .ok (some false) w := by kernel_rfl
theorem wmt_hash (b : Nat) (w : World) : (method 303 84 (.pointer (some ⟨b, 0, none⟩)) "escrow/script.hash").run Tryz.prog w = .ok (95, .pointer (some ⟨b, 0, none⟩)) w := by kernel_rfl
theorem wmt_head (b : Nat) (w : World) : (method 303 84 (.pointer (some ⟨b, 0, none⟩)) "escrow/script.head").run Tryz.prog w = .ok (96, .pointer (some ⟨b, 0, none⟩)) w := by kernel_rfl
theorem wna_name (b : Nat) (w : World) : (nilAhead 303 84 (.pointer (some ⟨b, 0, none⟩)) "escrow/script.name").run Tryz.prog w = .ok (some false) w := by kernel_rfl
theorem wmt_name (b : Nat) (w : World) : (method 303 84 (.pointer (some ⟨b, 0, none⟩)) "escrow/script.name").run Tryz.prog w = .ok (97, .pointer (some ⟨b, 0, none⟩)) w := by kernel_rfl
theorem wna_number (b : Nat) (w : World) : (nilAhead 303 84 (.pointer (some ⟨b, 0, none⟩)) "escrow/script.number").run Tryz.prog w = .ok (some false) w := by kernel_rfl
theorem wmt_number (b : Nat) (w : World) : (method 303 84 (.pointer (some ⟨b, 0, none⟩)) "escrow/script.number").run Tryz.prog w = .ok (98, .pointer (some ⟨b, 0, none⟩)) w := by kernel_rfl
theorem wna_quoted (b : Nat) (w : World) : (nilAhead 303 84 (.pointer (some ⟨b, 0, none⟩)) "escrow/script.quoted").run Tryz.prog w = .ok (some false) w := by kernel_rfl
theorem wmt_quoted (b : Nat) (w : World) : (method 303 84 (.pointer (some ⟨b, 0, none⟩)) "escrow/script.quoted").run Tryz.prog w = .ok (99, .pointer (some ⟨b, 0, none⟩)) w := by kernel_rfl
theorem wna_whole (b : Nat) (w : World) : (nilAhead 303 84 (.pointer (some ⟨b, 0, none⟩)) "escrow/script.whole").run Tryz.prog w = .ok (some false) w := by kernel_rfl
theorem wmt_whole (b : Nat) (w : World) : (method 303 84 (.pointer (some ⟨b, 0, none⟩)) "escrow/script.whole").run Tryz.prog w = .ok (100, .pointer (some ⟨b, 0, none⟩)) w := by kernel_rfl
end Go.Proofs.YtepgoehpjafbhaaGreatDoor
