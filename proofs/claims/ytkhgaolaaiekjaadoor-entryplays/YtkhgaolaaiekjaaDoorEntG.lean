/-
  Layer 13's own known, given what each call of the package answers.
-/
import Derived.Test.YtkhgaolaaiekjaaDoorEntF
import Derived.Test.YtkhgaolaaiekjaaDoorTextC
namespace Go.Proofs.YtkhgaolaaiekjaaDoor
open Go.RowKit Go.Lib
set_option maxRecDepth 100000

theorem Tabs.still {w w' : World} (h : Tabs w) (k : Still w w') : Tabs w' := h.below k.below
/-! ### what each call of the package answers -/
def EncStep (l : List En) (w : World) (e : Ending) (w' : World) : Prop :=
  ∃ A n c, e = .returned (.tuple #[.slice A n c, .int .i64 (chkE l)]) ∧ (chkE l = 0 → n = (encL l).length ∧ SlIs w' w.heap.size w'.heap.size (.slice A n c) (encL l)) ∧ (chkE l ≠ 0 → n = 0) ∧ Still w w'
def EncSpec : Prop := ∀ (E : Nat → Prop) (v : Value) (l : List En) (w : World), Tabs w → U32s l → l.length ≤ 1000 → (∀ x ∈ l, x.n.length ≤ 1000) → EsIs w E v l →
  Calls Tryd.prog 10 #[v] w (EncStep l w)
def DecStep (bs : List UInt8) (w : World) (e : Ending) (w' : World) : Prop :=
  ∃ u m er, e = .returned (.tuple #[u, .int .i64 er]) ∧ DecIs bs m er ∧ EsIs w' (fun i => w.heap.size ≤ i) u m ∧ Still w w'
def DecSpec : Prop := ∀ (v : Value) (bs : List UInt8) (lo hi : Nat) (w : World), Tabs w → SlIs w lo hi v bs → hi ≤ w.heap.size → bs.length ≤ 1000000 → Calls Tryd.prog 12 #[v] w (DecStep bs w)
/-- Entries and an error, made behind w. -/
def RowStep (l : List En) (er : Int) (w : World) (e : Ending) (w' : World) : Prop :=
  ∃ A c, e = .returned (.tuple #[.slice A l.length c, .int .i64 er]) ∧ EsIs w' (fun i => w.heap.size ≤ i) (.slice A l.length c) l ∧ Still w w'
def PutSpec : Prop := ∀ (E : Nat → Prop) (v : Value) (l : List En) (x : En) (w : World), Tabs w → Good l → U32s l → l.length ≤ 1000 → x.n.length ≤ 1000 → x.i < 4294967296 → EsIs w E v l →
  Calls Tryd.prog 15 #[v, .agg #[.string (strOf x.n), .int .u32 (x.i : Int)]] w (RowStep (putL l x) (putEr l x) w)
def CutSpec : Prop := ∀ (E : Nat → Prop) (v : Value) (l : List En) (n : List UInt8) (w : World), Tabs w → Good l → U32s l → l.length ≤ 1000 → n.length ≤ 1000 → EsIs w E v l →
  Calls Tryd.prog 17 #[v, .string (strOf n)] w (RowStep (cutL l n) (cutEr l n) w)
def FindSpec : Prop := ∀ (E : Nat → Prop) (v : Value) (l : List En) (n : List UInt8) (w : World), Tabs w → Good l → U32s l → l.length ≤ 1000 → n.length ≤ 1000 → EsIs w E v l →
  Calls Tryd.prog 18 #[v, .string (strOf n)] w fun e w' => e = .returned (.tuple #[.int .u32 (findI l n : Int), .bool (decide (∃ y ∈ l, y.n = n))]) ∧ Still w w'

def kB : En := ⟨[98], 2⟩
def kA : En := ⟨[97], 3⟩
theorem kB_name : nameOf kB.n = 0 := by decide
theorem kA_name : nameOf kA.n = 0 := by decide
theorem k1er : putEr [] kB = 0 := by decide
theorem k1l : putL [] kB = [kB] := by decide
theorem k2er : putEr [kB] kA = 0 := by decide
theorem k2l : putL [kB] kA = [kA, kB] := by decide
theorem k3 : chkE [kA, kB] = 0 := by decide
theorem k3l : (encL [kA, kB]).length = 64 := by decide
theorem k4 : findI [kA, kB] [97] = 3 := by decide
theorem k4b : decide (∃ y ∈ [kA, kB], y.n = [97]) = true := by decide
theorem k5er : cutEr [kA, kB] [98] = 0 := by decide
theorem k5l : cutL [kA, kB] [98] = [kA] := by decide
theorem k6er : putEr [kA, kB] ⟨[97], 9⟩ = 7 := by decide
theorem k6l : putL [kA, kB] ⟨[97], 9⟩ = [] := by decide
theorem good_AB : Good [kA, kB] := (chkE_good _).1 k3
theorem good_B : Good [kB] := (chkE_good _).1 (by decide)
theorem u32_AB : U32s [kA, kB] := by
  intro x hx
  rcases List.mem_cons.1 hx with rfl | hx
  · decide
  · rcases List.mem_cons.1 hx with rfl | hx
    · decide
    · cases hx
theorem u32_B : U32s [kB] := fun x hx => u32_AB x (List.mem_cons_of_mem _ hx)
theorem u32_nil : U32s [] := fun x hx => by
  cases hx
theorem short_AB : ∀ x ∈ [kA, kB], x.n.length ≤ 1000 := by
  intro x hx
  rcases List.mem_cons.1 hx with rfl | hx
  · decide
  · rcases List.mem_cons.1 hx with rfl | hx
    · decide
    · cases hx
theorem es_nil (w : World) (E : Nat → Prop) : EsIs w E (.slice none 0 0) [] := EsIs.nil w E

set_option maxHeartbeats 4000000 in
theorem known13_any (HE : EncSpec) (HD : DecSpec) (HP : PutSpec) (HC : CutSpec) (HF : FindSpec) (w : World) (hT : Tabs w) : Calls Tryd.prog 8 #[] w fun e w' => e = .returned (.bool true) ∧ Still w w' := by
  have C1 := Lib.hid (HP (fun _ => False) (.slice none 0 0) [] kB w hT good_nil u32_nil (by decide) (by decide) (by decide) (es_nil w _))
  have C2 : Hid (∀ W A c, Still w W → EsIs W (fun i => w.heap.size ≤ i) (.slice A 1 c) [kB] → Calls Tryd.prog 15 #[.slice A 1 c, .agg #[.string ⟨#[97]⟩, .int .u32 3]] W (RowStep [kA, kB] 0 W)) := Lib.hid (fun W A c k h => by
    have := HP _ _ _ kA W (hT.still k) good_B u32_B (by decide) (by decide) (by decide) h
    rw [k2er, k2l] at this
    exact this)
  have C3 : Hid (∀ W A c E, Still w W → EsIs W E (.slice A 2 c) [kA, kB] → Calls Tryd.prog 10 #[.slice A 2 c] W (EncStep [kA, kB] W)) := Lib.hid (fun W A c E k h => HE _ _ _ W (hT.still k) u32_AB (by decide) short_AB h)
  have C4 : Hid (∀ W v lo hi, Still w W → SlIs W lo hi v (encL [kA, kB]) → hi ≤ W.heap.size → Calls Tryd.prog 12 #[v] W (DecStep (encL [kA, kB]) W)) := Lib.hid (fun W v lo hi k h hh => HD v _ lo hi W (hT.still k) h hh (by rw [k3l]; decide))
  have C5 : Hid (∀ W A c E, Still w W → EsIs W E (.slice A 2 c) [kA, kB] → Calls Tryd.prog 18 #[.slice A 2 c, .string ⟨#[97]⟩] W fun e w' => e = .returned (.tuple #[.int .u32 3, .bool true]) ∧ Still W w') := Lib.hid (fun W A c E k h => by
    have := HF _ _ _ [97] W (hT.still k) good_AB u32_AB (by decide) (by decide) h
    rw [k4, k4b] at this
    exact this)
  have C6 : Hid (∀ W A c E, Still w W → EsIs W E (.slice A 2 c) [kA, kB] → Calls Tryd.prog 17 #[.slice A 2 c, .string ⟨#[98]⟩] W (RowStep [kA] 0 W)) := Lib.hid (fun W A c E k h => by
    have := HC _ _ _ [98] W (hT.still k) good_AB u32_AB (by decide) (by decide) h
    rw [k5er, k5l] at this
    exact this)
  have C7 : Hid (∀ W A c E, Still w W → EsIs W E (.slice A 2 c) [kA, kB] → Calls Tryd.prog 15 #[.slice A 2 c, .agg #[.string ⟨#[97]⟩, .int .u32 9]] W (RowStep [] 7 W)) := Lib.hid (fun W A c E k h => by
    have := HP _ _ _ ⟨[97], 9⟩ W (hT.still k) good_AB u32_AB (by decide) (by decide) (by decide) h
    rw [k6er, k6l] at this
    exact this)
  rw [k1er, k1l] at C1
  clear HE HD HP HC HF hT
  go_enter Tryd.func8, Tryd.ntmps8
  go_wp2_with fail
  refine C1.out.mono ?_
  rintro e w1 ⟨A1, c1, rfl, h1, s1⟩
  have D2 := Lib.hid (C2.out w1 A1 c1 s1 h1)
  have S1 := Lib.hid s1
  clear C1 C2 h1 s1
  go_wp2_with fail
  refine D2.out.mono ?_
  rintro e w2 ⟨A2, c2, rfl, h2, s2⟩
  have S2 := Lib.hid (S1.out.trans s2)
  have H2 := Lib.hid h2
  have D3 := Lib.hid (C3.out w2 A2 c2 _ S2.out h2)
  clear D2 C3 h2 s2 S1
  go_wp2_with fail
  refine D3.out.mono ?_
  rintro e w3 ⟨A3, n3, c3, rfl, h3, _, s3⟩
  obtain ⟨rfl, h3⟩ := h3 k3
  have S3 := Lib.hid (S2.out.trans s3)
  have H3 := Lib.hid (EsIs.only H2.out s3 (fun _ _ _ h => h))
  have D4 := Lib.hid (C4.out w3 _ _ _ S3.out h3 (Nat.le_refl _))
  rw [k3, k3l]
  rw [k3l] at D4
  clear D3 C4 h3 s3 S2 H2
  go_wp2_with fail
  refine D4.out.mono ?_
  rintro e w4 ⟨u4, m4, er4, rfl, h4, e4, s4⟩
  obtain ⟨rfl, rfl⟩ := DecIs.own h4 good_AB u32_AB
  obtain ⟨A4, c4, rfl⟩ := e4.form
  have S4 := Lib.hid (S3.out.trans s4)
  have H4 := Lib.hid (EsIs.only H3.out s4 (fun _ _ _ h => h))
  have D5 := Lib.hid (C5.out w4 A4 c4 _ S4.out e4)
  clear D4 C5 h4 e4 s4 S3 H3
  go_wp2_with fail
  refine D5.out.mono ?_
  rintro e w5 ⟨rfl, s5⟩
  have S5 := Lib.hid (S4.out.trans s5)
  have H5 := Lib.hid (EsIs.only H4.out s5 (fun _ _ _ h => h))
  have D6 := Lib.hid (C6.out w5 A2 c2 _ S5.out H5.out)
  clear D5 C6 s5 S4 H4
  go_wp2_with fail
  refine D6.out.mono ?_
  rintro e w6 ⟨A6, c6, rfl, _, s6⟩
  have S6 := Lib.hid (S5.out.trans s6)
  have H6 := Lib.hid (EsIs.only H5.out s6 (fun _ _ _ h => h))
  have D7 := Lib.hid (C7.out w6 A2 c2 _ S6.out H6.out)
  clear D6 C7 s6 S5 H5
  go_wp2_with fail
  refine D7.out.mono ?_
  rintro e w7 ⟨A7, c7, rfl, _, s7⟩
  have S7 := Lib.hid (S6.out.trans s7)
  have h7 : EsIs w7 _ _ [kA, kB] := EsIs.only H6.out s7 (fun _ _ _ h => h)
  obtain ⟨a, c, e, z0, _⟩ := h7.at (k := 0) (by decide)
  injection e with e1 _ e2
  subst e1 e2
  have z : w7.cell? a = some (.string ⟨#[97]⟩) := by
    rw [Nat.zero_mul] at z0
    have e0 : a.add 0 = a := by simp [Addr.add]
    rw [e0] at z0
    exact z0
  clear D7 s7 S6 H6 h7 z0
  go_wp2
  go_ret
  exact ⟨rfl, S7.out⟩
end Go.Proofs.YtkhgaolaaiekjaaDoor
