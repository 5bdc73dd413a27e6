/-
  Package stat: Encode of whatever record: its bytes, or the error of its first text that may not be one.
-/
import Derived.Test.YtepiifbleoimkaaDoorStatB
namespace Go.Proofs.YtepiifbleoimkaaDoor
open Go.RowKit
set_option maxRecDepth 100000

theorem Tabs.lt {w : World} (h : Tabs w) : 1 < w.heap.size ∧ 2 < w.heap.size :=
  ⟨World.block_lt_of_cell? w _ (h.1 0 (by decide)), World.block_lt_of_cell? w _ (h.2 0 (by decide)).1⟩
/-- The cells of a record in memory. -/
theorem Has.cells13 {w : World} {b : Nat} {t : TypeId} {s : S11} (h : Has w b t s.cells) :
    (w.cell? ⟨b, 0, none⟩ = some (.int .u16 (s.k : Int)) ∧ w.cell? ⟨b, 1, none⟩ = some (.int .u32 (s.d : Int)) ∧ w.cell? ⟨b, 2, none⟩ = some (.int .u8 (s.q.t : Int)) ∧ w.cell? ⟨b, 3, none⟩ = some (.int .u32 (s.q.v : Int)) ∧ w.cell? ⟨b, 4, none⟩ = some (.int .u64 (s.q.p : Int))) ∧
    (w.cell? ⟨b, 5, none⟩ = some (.int .u32 (s.m : Int)) ∧ w.cell? ⟨b, 6, none⟩ = some (.int .u32 (s.a : Int)) ∧ w.cell? ⟨b, 7, none⟩ = some (.int .u32 (s.c : Int)) ∧ w.cell? ⟨b, 8, none⟩ = some (.int .u64 (s.l : Int))) ∧
    (w.cell? ⟨b, 9, none⟩ = some (.string (strOf s.n)) ∧ w.cell? ⟨b, 10, none⟩ = some (.string (strOf s.u)) ∧ w.cell? ⟨b, 11, none⟩ = some (.string (strOf s.g)) ∧ w.cell? ⟨b, 12, none⟩ = some (.string (strOf s.x))) :=
  ⟨⟨h.cell 0, h.cell 1, h.cell 2, h.cell 3, h.cell 4⟩, ⟨h.cell 5, h.cell 6, h.cell 7, h.cell 8⟩, ⟨h.cell 9, h.cell 10, h.cell 11, h.cell 12⟩⟩

def EncStep (w : World) (B g : Nat) (v : Value) (s : S11) (e : Ending) (w' : World) : Prop :=
  (wrongL s.texts = 0 ∧ OutStep w B g v (recB s) e w') ∨ (wrongL s.texts ≠ 0 ∧ e = .panicked [{ v := .iface 36 (.int .i64 (wrongL s.texts)), recovered := false }] ∧ Only (Foot g v) w w')

set_option maxHeartbeats 2000000 in
theorem encode1_any (B g sb : Nat) (v : Value) (s : S11) (w : World) (h : OutAt w B g v []) (hS : Has w sb 31 s.cells) (hsb : ¬ Foot g v sb) (hn : s.Num) (hs : s.Few) (hT : Tabs w) (hB : 1 < B ∧ 2 < B) :
    Calls Tryd.prog 77 #[.pointer (some ⟨g, 0, none⟩), .pointer (some ⟨sb, 0, none⟩)] w (EncStep w B g v s) := by
  obtain ⟨⟨d0, d1, d2, d3, d4⟩, ⟨d5, d6, d7, d8⟩, ⟨d9, d10, d11, d12⟩⟩ := hS.cells13
  have hft : ∀ i, Foot g v i → B ≤ i ∧ i < w.heap.size := fun i hi => h.foot_lt hi
  have hsl := hS.lt
  have C0 := size_any s w hs
  have X0 := Lib.hid (Chain.start h)
  have HS := Lib.hid (fun (w1 : World) (bs : List UInt8) (v1 : Value) (c : Chain w B g v bs w1 v1) => hS.only c.only hsb)
  have HT := Lib.hid (fun (w1 : World) (bs : List UInt8) (v1 : Value) (c : Chain w B g v bs w1 v1) => hT.only c.only (fun h => by have := (hft _ h).1; omega) (fun h => by have := (hft _ h).1; omega))
  obtain ⟨hs1, hs2, hs3, hs4⟩ := id hs
  have hz : 49 ≤ s.size ∧ s.size ≤ 5000 := by unfold S11.size; omega
  obtain ⟨hz1, hz2⟩ := hz
  have w1x : IntKind.u64.wrap ((s.size : Int) - 2) = (((s.size - 2 : Nat)) : Int) := by rw [IntWalk.u64_in _ (by omega)]; omega
  have HNm := Lib.hid hn
  have HF := Lib.hid hs
  have lN := numsB_length s
  have lp := putI_length 2 (((s.size - 2 : Nat)) : Int)
  have E : Hid ([] ++ putI 2 (((s.size - 2 : Nat)) : Int) ++ numsB s ++ textsB s.texts = recB s) := by
    refine Lib.hid ?_
    rw [show putI 2 (((s.size - 2 : Nat)) : Int) = putB 2 (s.size - 2) from putI_of 2 _ (by omega) (by omega)]
    simp [recB, statB]
  unfold S11.val S11.cells at C0
  have C0 := Lib.hid C0
  clear h hS hsb hn hs hT hft hs1 hs2 hs3 hs4
  go_enter Tryd.func77, Tryd.ntmps77
  go_wp2_with fail
  refine C0.out.mono ?_
  rintro e w1 ⟨rfl, b1⟩
  have X1 := Lib.hid (X0.out.quiet (Only.of_below b1) (fun i hi h => by omega))
  clear b1 C0 X0 d0 d1 d2 d3 d4 d5 d6 d7 d8 d9 d10 d11 d12
  go_wp2_with fail
  refine (put_any B g v [] 2 (((s.size - 2 : Nat)) : Int) w1 X1.out.out (by omega) (by omega) (by simp)).mono ?_
  intro e w2 st
  obtain ⟨v2, rfl, x2⟩ := X1.out.step st
  have X2 := Lib.hid x2
  obtain ⟨⟨d0, d1, d2, d3, d4⟩, ⟨d5, d6, d7, d8⟩, ⟨d9, d10, d11, d12⟩⟩ := (HS.out _ _ _ x2).cells13
  have C2 := putnumbers_any B g v2 _ s w2 x2.out HNm.out (by rw [List.length_append]; simp; omega)
  unfold S11.val S11.cells at C2
  have C2 := Lib.hid C2
  clear x2 st X1
  go_wp2_with fail
  refine C2.out.mono ?_
  intro e w3 st
  obtain ⟨v3, rfl, x3⟩ := X2.out.step st
  have X3 := Lib.hid x3
  clear d0 d1 d2 d3 d4 d5 d6 d7 d8 d9 d10 d11 d12 C2 X2
  obtain ⟨⟨d0, d1, d2, d3, d4⟩, ⟨d5, d6, d7, d8⟩, ⟨d9, d10, d11, d12⟩⟩ := (HS.out _ _ _ x3).cells13
  have C3 := puttexts_any B g v3 _ s w3 x3.out HF.out (by rw [List.length_append, List.length_append]; simp; omega) (HT.out _ _ _ x3) hB
  unfold S11.val S11.cells at C3
  have C3 := Lib.hid C3
  clear x3 st
  go_wp2_with fail
  refine C3.out.mono ?_
  intro e w4 st
  rcases st with ⟨h0, st⟩ | ⟨h0, rfl, st⟩
  · obtain ⟨v4, rfl, x4⟩ := X3.out.step st
    rw [E.out] at x4
    have R : Hid (EncStep w B g v s (.returned (.tuple #[])) w4) := .inl ⟨h0, x4.fin (Only.refl _ _)⟩
    clear d0 d1 d2 d3 d4 d5 d6 d7 d8 d9 d10 d11 d12 C3 X3 x4 st h0
    go_wp2
    go_end0
    exact R.out
  · have R : Hid (EncStep w B g v s (.panicked [{ v := .iface 36 (.int .i64 (wrongL s.texts)), recovered := false }]) w4) := by
      refine .inr ⟨h0, rfl, X3.out.only.trans st ?_⟩
      intro i hi hf
      rcases hf with hf | hf
      · exact .inl hf
      · rcases X3.out.own i hf with h | h
        · exact .inr h
        · omega
    clear d0 d1 d2 d3 d4 d5 d6 d7 d8 d9 d10 d11 d12 C3 X3 st h0
    go_wp2
    exact ⟨rfl, R.out⟩

theorem Tryd.enterEncode : ∀ args w, (callFunc 77 args).run Tryd.prog w = .ok (.enter 77 args) w := enters_of Tryd.func77 (by kernel_rfl) rfl

/-- What Encode answers. -/
def EncodeStep (w : World) (s : S11) (e : Ending) (w' : World) : Prop :=
  (wrongL s.texts = 0 ∧ ∃ v, e = .returned (.tuple #[v, .int .i64 0]) ∧ w'.ownsRow w.heap.size 5 1 v (recB s).length (b8s (recB s)) ∧ Below w.heap.size w w') ∨
  (wrongL s.texts ≠ 0 ∧ e = .returned (.tuple #[.slice none 0 0, .int .i64 (wrongL s.texts)]) ∧ Below w.heap.size w w')

set_option maxHeartbeats 2000000 in
theorem encode_any (s : S11) (w : World) (hn : s.Num) (hs : s.Few) (hT : Tabs w) : Calls Tryd.prog 63 #[s.val] w (EncodeStep w s) := by
  have hlt := hT.lt
  obtain ⟨W, hW⟩ : ∃ W, W = (w.alloc (.cells s.cells 31)).alloc (.cells #[.slice none 0 0] 59) := ⟨_, rfl⟩
  have k0 : Only (fun _ => False) w W := by rw [hW]; exact ((Only.refl _ w).alloc _).alloc _
  have kS : Has W w.heap.size 31 s.cells := by rw [hW]; exact (Has.new w _ _).alloc _
  have kO : OutAt W w.heap.size (w.heap.size + 1) (.slice none 0 0) [] := by
    rw [hW]
    refine ⟨?_, World.ownsRow_nil _ _ _ _, by omega⟩
    have := Has.new (w.alloc (.cells s.cells 31)) 59 #[.slice none 0 0]
    simpa using this
  have sW : W.heap.size = w.heap.size + 2 := by rw [hW]; simp
  have C1 := encode1_any w.heap.size (w.heap.size + 1) w.heap.size (.slice none 0 0) s (W.alloc errBox) (kO.only ((Only.refl (fun _ => False) W).alloc _) (fun _ _ h => h)) (kS.alloc _) (by
    intro h
    rcases h with h | h
    · omega
    · cases h) hn hs ((hT.only k0 (fun h => h) (fun h => h)).only ((Only.refl (fun _ => False) W).alloc _) (fun h => h) (fun h => h)) hlt
  have hnf : ¬ Foot (w.heap.size + 1) (.slice none 0 0) (w.heap.size + 2) := by
    intro h
    rcases h with h | h
    · omega
    · cases h
  have hlow : ∀ i, Foot (w.heap.size + 1) (.slice none 0 0) i → i = w.heap.size + 1 := by
    intro i h
    rcases h with h | h
    · exact h
    · cases h
  have hE : Has (W.alloc errBox) W.heap.size 36 #[.int .i64 0] := Has.new _ _ _
  have kW : Only (fun _ => False) w (W.alloc errBox) := k0.alloc _
  unfold S11.val
  by_cases hz : wrongL s.texts = 0
  · have C := Lib.hid (caught_ok 77 _ Tryd.enterEncode W (fun w' => ∃ v', OutAt w' w.heap.size (w.heap.size + 1) v' (recB s) ∧ Below w.heap.size w w') (C1.mono (by
      rintro e w' (⟨_, v', he, o, f, _⟩ | ⟨h, _⟩)
      · refine ⟨he, hE.only f (by rw [sW]; exact hnf), v', o, ?_⟩
        exact ((kW.mono (fun _ _ h => h.elim)).trans f (fun _ _ h => h)).below (Nat.le_refl _) (fun i hi h => by have := hlow i h; omega)
      · exact absurd hz h)))
    have hrl := recB_length hz
    have hz2 : s.size ≤ 5000 := by
      obtain ⟨hs1, hs2, hs3, hs4⟩ := hs
      unfold S11.size
      omega
    clear hnf hlow hE kW C1 kS kO sW hT k0 hn hs hlt
    unfold S11.cells at hW ⊢
    go_enter Tryd.func63, Tryd.ntmps63
    go_wp2_with fail
    rw [← hW]
    refine C.out.mono ?_
    rintro e w1 ⟨rfl, v1, o1, b1⟩
    have O1 := Lib.hid o1
    have B1 := Lib.hid b1
    clear o1 b1 C hW
    go_wp2_with fail
    refine (bytes_any _ _ _ _ w1 O1.out (by omega)).mono ?_
    rintro e w2 ⟨v2, rfl, a2, b2⟩
    have R : Hid (EncodeStep w s (.returned (.tuple #[v2, .int .i64 0])) w2) := .inl ⟨hz, v2, rfl, owns_base a2 B1.out.size, B1.out.trans (b2.mono B1.out.size)⟩
    clear a2 b2 O1 B1
    go_wp2
    go_ret2
    exact R.out
  · have C := Lib.hid (caught_panic 77 _ Tryd.enterEncode W (wrongL s.texts) (fun w' => Below w.heap.size w w') (C1.mono (by
      rintro e w' (⟨h, _⟩ | ⟨_, he, f⟩)
      · exact absurd h hz
      · refine ⟨he, hE.only f (by rw [sW]; exact hnf), ?_⟩
        exact ((kW.mono (fun _ _ h => h.elim)).trans f (fun _ _ h => h)).below (Nat.le_refl _) (fun i hi h => by have := hlow i h; omega))))
    have hzb : (wrongL s.texts != 0) = true := by simpa using hz
    have fin : Hid (∀ w', Below w.heap.size w w' → EncodeStep w s (.returned (.tuple #[.slice none 0 0, .int .i64 (wrongL s.texts)])) w') := fun w' b => .inr ⟨hz, rfl, b⟩
    clear hnf hlow hE kW C1 kS kO hT k0 hn hs hlt
    generalize wrongL s.texts = er at C fin hzb
    unfold S11.cells at hW ⊢
    go_enter Tryd.func63, Tryd.ntmps63
    go_wp2_with fail
    rw [← hW]
    refine C.out.mono ?_
    rintro e w1 ⟨rfl, w2, h2, b1, hw1⟩
    have R := Lib.hid (fin.out w1 (by rw [hw1]; exact b1.setCell (p := ⟨W.heap.size, 0, none⟩) (by simp; omega) (.int .i64 er)))
    clear b1 C hW fin h2 hw1 sW
    go_wp2
    go_ret2
    exact R.out
end Go.Proofs.YtepiifbleoimkaaDoor
