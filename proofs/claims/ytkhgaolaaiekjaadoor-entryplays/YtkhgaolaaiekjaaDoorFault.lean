/-
  Package fault: Must, and Caught over whatever function it is handed: what each call answers and what it does to memory.
-/
import Derived.Test.YtkhgaolaaiekjaaDoorNumA
import Derived.Recover
import Derived.Defers
import Derived.Shelf.Abstract
namespace Go.Proofs.YtkhgaolaaiekjaaDoor
open Go.RowKit

theorem must_yes (e : Int) (w : World) : Calls Tryd.prog 29 #[.bool true, .int .i64 e] w fun e w' => e = .returned (.tuple #[]) ∧ w = w' := by
  go_enter Tryd.func29, Tryd.ntmps29
  go_wp2
  go_end0
  exact ⟨rfl, rfl⟩
theorem must_no (e : Int) (w : World) : Calls Tryd.prog 29 #[.bool false, .int .i64 e] w fun r w' => r = .panicked [{ v := .iface 26 (.int .i64 e), recovered := false }] ∧ w = w' := by
  go_enter Tryd.func29, Tryd.ntmps29
  go_wp2
  exact ⟨rfl, rfl, rfl⟩

theorem Tryd.asserts (e : Int) (w : World) : (Instr.typeAssert (.iface 26 (.int .i64 e)) 20 26 true).run Tryd.prog w = .ok (.tuple #[.int .i64 e, .bool true]) w := by kernel_rfl

theorem caught1_slots (p e : Value) :
    #[p] ++ (Array.replicate 10 undef).setIfInBounds 3 e = #[p, undef, undef, undef, e, undef, undef, undef, undef, undef, undef] := by kernel_rfl

set_option maxHeartbeats 400000 in
theorem caught1_panicking (b : Nat) (e : Int) (x : Value) (older : List PanicEntry) (w : World) (hb : Has w b 26 #[x]) :
    CallsD Tryd.prog 33 #[.pointer (some ⟨b, 0, none⟩)] (.panicking ({ v := .iface 26 (.int .i64 e), recovered := false } :: older)) w fun r u' w' =>
      r = .returned (.tuple #[]) ∧ u' = .panicking ({ v := .iface 26 (.int .i64 e), recovered := true } :: older) ∧ w' = w.setCell ⟨b, 0, none⟩ (.int .i64 e) := by
  have c0 := hb.cell 0
  have f0 := hb.frozen 0
  simp at c0
  refine callsD_of_wpS Tryd.func33 rfl fun c₀ cs hu => ?_
  apply wpS_seq
  apply wpS_region
  simp [wpOpsS, go_sem, recoverD, hu, Tryd.ntmps33, Exit.thenS]
  refine wpS_of_wp ?_
  rw [caught1_slots]
  have ha := Tryd.asserts
  go_wp2
  simp [bodyPostS, results, Tryd.results33, go_sem]

set_option maxHeartbeats 400000 in
theorem caught1_idle (b : Nat) (w : World) :
    CallsD Tryd.prog 33 #[.pointer (some ⟨b, 0, none⟩)] .returning w fun r u' w' => r = .returned (.tuple #[]) ∧ u' = .returning ∧ w' = w := by
  refine callsD_of_wpS Tryd.func33 rfl fun c₀ cs hu => ?_
  apply wpS_seq
  apply wpS_region
  simp [wpOpsS, go_sem, recoverD, hu, Tryd.ntmps33, Exit.thenS]
  refine wpS_of_wp ?_
  rw [caught1_slots]
  go_wp2
  cases c₀
  simp_all [bodyPostS, results, Tryd.results33, go_sem]

theorem Has.same {w : World} {g : Nat} {t : TypeId} {u : Value} (h : Has w g t #[u]) : w.setCell ⟨g, 0, none⟩ u = w := by
  unfold Has at h
  have hk : (w.setCell ⟨g, 0, none⟩ u).heap = w.heap := by
    apply Array.ext_getElem?
    intro i
    by_cases hi : g = i
    · subst hi
      simp [World.setCell, Array.getElem?_modify, h]
    · exact Below.heap_setCell w ⟨g, 0, none⟩ u i (by intro e; exact hi (by simpa using e.symm))
  have : w.setCell ⟨g, 0, none⟩ u = { w with heap := (w.setCell ⟨g, 0, none⟩ u).heap } := rfl
  rw [this, hk]

/-- What Caught lays for its answer. -/
def errBox : Obj := .cells #[.int .i64 0] 26
set_option maxHeartbeats 400000 in
theorem caught_ok (g : Nat) (lb : Array Value) (eg : ∀ args w, (callFunc g args).run Tryd.prog w = .ok (.enter g args) w) (w : World) (R : World → Prop)
    (hR : Calls Tryd.prog g lb (w.alloc errBox) fun e w' => e = .returned (.tuple #[]) ∧ Has w' w.heap.size 26 #[.int .i64 0] ∧ R w') :
    Calls Tryd.prog 19 #[.func (.func g) #[] lb] w fun e w' => e = .returned (.int .i64 0) ∧ R w' := by
  have H : Hid (Calls Tryd.prog g lb (w.alloc (.cells #[.int .i64 0] 26)) fun e w' => e = .returned (.tuple #[]) ∧ Has w' w.heap.size 26 #[.int .i64 0] ∧ R w') := by
    simpa [errBox] using Lib.hid hR
  clear hR
  have hmf : ∀ (fn : Fn) (first cap : Array Value) (w : World), (Instr.makeFunc fn first cap).run Tryd.prog w = .ok (.func fn first cap) w := fun _ _ _ _ => rfl
  go_enter_defers Tryd.func19, Tryd.ntmps19
  go_wp2_with (go_at_fn g; refine H.out.mono ?_; rintro e w' ⟨rfl, hb, hr⟩; have HR := Lib.hid hr; have HB := Lib.hid hb; have hc := hb.cell 0; have hf := hb.frozen 0; have hs := hb.same; simp at hc; clear hr hb H)
  refine leaves_cons (f := 33) (args := #[.pointer (some ⟨w.heap.size, 0, none⟩)]) (by simp) (by simp [go_sem]) ?_
  refine (caught1_idle _ _).mono ?_
  rintro e u' w'' ⟨rfl, rfl, rfl⟩
  simp [Leaves, settle, results, Tryd.results19, go_sem, hc]
  exact HR.out

set_option maxHeartbeats 400000 in
theorem caught_panic (g : Nat) (lb : Array Value) (eg : ∀ args w, (callFunc g args).run Tryd.prog w = .ok (.enter g args) w) (w : World) (er : Int) (R : World → Prop)
    (hR : Calls Tryd.prog g lb (w.alloc errBox) fun e w' => e = .panicked [{ v := .iface 26 (.int .i64 er), recovered := false }] ∧ Has w' w.heap.size 26 #[.int .i64 0] ∧ R w') :
    Calls Tryd.prog 19 #[.func (.func g) #[] lb] w fun e w' => e = .returned (.int .i64 er) ∧ ∃ w1, Has w1 w.heap.size 26 #[.int .i64 0] ∧ R w1 ∧ w' = w1.setCell ⟨w.heap.size, 0, none⟩ (.int .i64 er) := by
  have H : Hid (Calls Tryd.prog g lb (w.alloc (.cells #[.int .i64 0] 26)) fun e w' => e = .panicked [{ v := .iface 26 (.int .i64 er), recovered := false }] ∧ Has w' w.heap.size 26 #[.int .i64 0] ∧ R w') := by
    simpa [errBox] using Lib.hid hR
  clear hR
  have hmf : ∀ (fn : Fn) (first cap : Array Value) (w : World), (Instr.makeFunc fn first cap).run Tryd.prog w = .ok (.func fn first cap) w := fun _ _ _ _ => rfl
  go_enter_defers Tryd.func19, Tryd.ntmps19
  go_wp2_with (go_at_fn g; refine H.out.mono ?_; rintro e w' ⟨rfl, hb, hr⟩; have HR := Lib.hid hr; have HB := Lib.hid hb; clear hr hb H)
  refine leaves_cons (f := 33) (args := #[.pointer (some ⟨w.heap.size, 0, none⟩)]) (by simp) (by simp [go_sem]) ?_
  refine (caught1_panicking _ er _ [] _ HB.out).mono ?_
  rintro e u' w'' ⟨rfl, rfl, rfl⟩
  have hc := (HB.out.set 0 (.int .i64 er)).cell 0
  simp at hc
  simp [Leaves, settle, results, Tryd.results19, go_sem, hc]
  exact ⟨w', HB.out, HR.out, rfl⟩
end Go.Proofs.YtkhgaolaaiekjaaDoor
