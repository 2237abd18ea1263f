/-
  Two small words on worlds that are alike below a block.
-/
import Derived.Test.YtblggbihnglipaaPQuiet
namespace Go.Proofs.Ytblggbihnglipaa
open Go.RowKit

theorem Below.toGrown {w w' : World} (h : Below w.heap.size w w') (row : Option Nat) : w.grownBy w' row := ⟨h.os, h.tape, h.output, h.size, fun i hi _ => h.block i hi⟩
theorem cellB {B : Nat} {W w1 : World} (hb : Below B W w1) {b o : Nat} {u : Value} (hlt : b < B) (h : W.cell? ⟨b, o, none⟩ = some u) : w1.cell? ⟨b, o, none⟩ = some u := (hb.cell (p := ⟨b, o, none⟩) hlt).trans h
end Go.Proofs.Ytblggbihnglipaa
