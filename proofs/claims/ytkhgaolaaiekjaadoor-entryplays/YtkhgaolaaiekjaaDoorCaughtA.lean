/-
  Package fault: Caught over a function that ends in either way.
-/
import Derived.Test.YtkhgaolaaiekjaaDoorFault
namespace Go.Proofs.YtkhgaolaaiekjaaDoor
open Go.RowKit Go.Lib
set_option maxRecDepth 100000

/-- What a function that is caught ends in. -/
def endsIn (r : Int) : Ending := if r = 0 then .returned (.tuple #[]) else .panicked [{ v := .iface 26 (.int .i64 r), recovered := false }]
theorem endsIn_yes : endsIn 0 = .returned (.tuple #[]) := if_pos rfl
theorem endsIn_no {r : Int} (h : r ≠ 0) : endsIn r = .panicked [{ v := .iface 26 (.int .i64 r), recovered := false }] := if_neg h
theorem caught_any (q : Nat) (lb : Array Value) (eg : ∀ args w, (callFunc q args).run Tryd.prog w = .ok (.enter q args) w) (W : World) (r : Int) (R : World → Prop)
    (hC : Calls Tryd.prog q lb (W.alloc errBox) fun e w' => e = endsIn r ∧ Has w' W.heap.size 26 #[.int .i64 0] ∧ R w') :
    Calls Tryd.prog 19 #[.func (.func q) #[] lb] W fun e w' => e = .returned (.int .i64 r) ∧ ∃ w1, R w1 ∧ Only (fun i => i = W.heap.size) w1 w' := by
  by_cases h : r = 0
  · subst h
    exact (caught_ok q lb eg W R hC).mono fun e w' hh => ⟨hh.1, w', hh.2, Only.refl _ _⟩
  · rw [endsIn_no h] at hC
    refine (caught_panic q lb eg W r R hC).mono fun e w' hh => ?_
    obtain ⟨h1, w1, _, h3, rfl⟩ := hh
    exact ⟨h1, w1, h3, (Only.refl (fun i => i = W.heap.size) _).setCell (p := ⟨W.heap.size, 0, none⟩) (fun _ => rfl) _⟩
end Go.Proofs.YtkhgaolaaiekjaaDoor
