/-
  Nothing that was there has turned; cells of a variable, by number. Nothing of the program is used here.
-/
import Derived.Test.YtkhgaolaaiekjaaDoorFault
namespace Go.Proofs.YtkhgaolaaiekjaaDoor
open Go.RowKit
set_option maxRecDepth 100000

/-- Nothing that was there has turned. -/
def Still (a b : World) : Prop := Only (fun _ => False) a b
section
variable {a b c : World}
theorem Still.refl (a : World) : Still a a := Only.refl _ a
theorem Still.trans (h : Still a b) (k : Still b c) : Still a c := Only.trans h k (fun _ _ h => h)
theorem Still.alloc (h : Still a b) (o : Obj) : Still a (b.alloc o) := Only.alloc h o
theorem Still.drewN (h : Still a b) (n : Nat) : Still a (b.drewN n) := Only.drewN h n
theorem Still.drew (h : Still a b) : Still a b.drew := Only.drew h
theorem Still.below (h : Still a b) : Below a.heap.size a b := Only.below h (Nat.le_refl _) (fun _ _ h => h)
theorem Still.has {g : Nat} {t : TypeId} {cs : Array Value} (h : Still a b) (k : Has a g t cs) : Has b g t cs := k.only h (fun h => h)
theorem Still.of_below (h : Below a.heap.size a b) : Still a b := (Only.of_below h).mono (fun i hi h => by omega)
theorem Still.size (h : Still a b) : a.heap.size ≤ b.heap.size := Only.size h
theorem Still.set (h : Still a b) {p : Addr} (hp : a.heap.size ≤ p.block) (u : Value) : Still a (b.setCell p u) := Only.setCell h (fun h => by omega) u
theorem Has.drewN {g : Nat} {t : TypeId} {cs : Array Value} (h : Has a g t cs) (n : Nat) : Has (a.drewN n) g t cs := h
end

/-- A list of bytes that was made behind w. -/
def NewB (w : World) (bs : List UInt8) (e : Ending) (w' : World) : Prop := ∃ v, e = .returned v ∧ w'.ownsRow w.heap.size 5 1 v bs.length (b8s bs) ∧ Still w w'
theorem SlIs.wide2 {w : World} {lo hi hi' : Nat} {v : Value} {bs : List UInt8} (h : SlIs w lo hi v bs) (hh : hi ≤ hi') : SlIs w lo hi' v bs := by
  obtain ⟨A, c, e, h1, h2, h3⟩ := h
  exact ⟨A, c, e, h1, h2, h3.wide (Nat.le_refl _) hh⟩
theorem Still.slis {a b : World} {lo hi : Nat} {v : Value} {bs : List UInt8} (k : Still a b) (h : SlIs a lo hi v bs) (hh : hi ≤ a.heap.size) : SlIs b lo hi v bs := h.only k hh (fun _ _ _ h => h)
theorem Has.cells3 {w : World} {g : Nat} {t : TypeId} {x0 x1 x2 : Value} (h : Has w g t #[x0, x1, x2]) :
    w.cell? ⟨g, 0, none⟩ = some x0 ∧ w.cell? ⟨g, 1, none⟩ = some x1 ∧ w.cell? ⟨g, 2, none⟩ = some x2 :=
  ⟨by simpa using h.cell 0, by simpa using h.cell 1, by simpa using h.cell 2⟩
theorem Has.cells8 {w : World} {g : Nat} {t : TypeId} {x0 x1 x2 x3 x4 x5 x6 x7 : Value} (h : Has w g t #[x0, x1, x2, x3, x4, x5, x6, x7]) :
    w.cell? ⟨g, 0, none⟩ = some x0 ∧ w.cell? ⟨g, 1, none⟩ = some x1 ∧ w.cell? ⟨g, 2, none⟩ = some x2 ∧ w.cell? ⟨g, 3, none⟩ = some x3 ∧ w.cell? ⟨g, 4, none⟩ = some x4 ∧ w.cell? ⟨g, 5, none⟩ = some x5 ∧ w.cell? ⟨g, 6, none⟩ = some x6 ∧ w.cell? ⟨g, 7, none⟩ = some x7 :=
  ⟨by simpa using h.cell 0, by simpa using h.cell 1, by simpa using h.cell 2, by simpa using h.cell 3, by simpa using h.cell 4, by simpa using h.cell 5, by simpa using h.cell 6, by simpa using h.cell 7⟩
theorem Has.frozen8 {w : World} {g : Nat} {t : TypeId} {cs : Array Value} (h : Has w g t cs) :
    w.frozen? ⟨g, 0, none⟩ = false ∧ w.frozen? ⟨g, 1, none⟩ = false ∧ w.frozen? ⟨g, 2, none⟩ = false ∧ w.frozen? ⟨g, 3, none⟩ = false ∧ w.frozen? ⟨g, 4, none⟩ = false ∧ w.frozen? ⟨g, 5, none⟩ = false ∧ w.frozen? ⟨g, 6, none⟩ = false ∧ w.frozen? ⟨g, 7, none⟩ = false :=
  ⟨h.frozen 0, h.frozen 1, h.frozen 2, h.frozen 3, h.frozen 4, h.frozen 5, h.frozen 6, h.frozen 7⟩
end Go.Proofs.YtkhgaolaaiekjaaDoor
