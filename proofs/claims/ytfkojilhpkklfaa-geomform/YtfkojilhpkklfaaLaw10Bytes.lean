/-
  Layer 10's GeomBytes: whatever geometry and whatever bytes, it answers true and leaves what was there.
-/
import Derived.Test.YtfkojilhpkklfaaLaw10Known
namespace Go.Proofs.Ytfkojilhpkklfaa
open Go.RowKit Go.Lib
set_option maxRecDepth 100000

theorem SlIs.wide2 {w : World} {lo hi hi' : Nat} {v : Value} {bs : List UInt8} (h : SlIs w lo hi v bs) (hh : hi ≤ hi') : SlIs w lo hi' v bs := by
  obtain ⟨A, c, e, h1, h2, h3⟩ := h
  exact ⟨A, c, e, h1, h2, h3.wide (Nat.le_refl _) hh⟩
theorem Still.slis {a b : World} {lo hi : Nat} {v : Value} {bs : List UInt8} (k : Still a b) (h : SlIs a lo hi v bs) (hh : hi ≤ a.heap.size) : SlIs b lo hi v bs := h.only k hh (fun _ _ _ h => h)
/-- Encode of what may be: as many bytes as a block has. -/
theorem encode_yes {g : G3} (hc : g.chk = 0) (W : World) : Calls Try.prog 7 #[g.val] W fun e w' => ∃ A c, e = .returned (.tuple #[.slice A g.bytes.length c, .int .i64 0]) ∧ SlIs w' W.heap.size w'.heap.size (.slice A g.bytes.length c) g.bytes ∧ Still W w' :=
  (gencode_any g W).mono fun e w' hh => by
    obtain ⟨v, rfl, h1, _, h3⟩ := hh
    obtain ⟨A, c, rfl, q1, q2, q3⟩ := owns_slice (h1 hc)
    rw [hc]
    exact ⟨A, c, rfl, ⟨A, c, rfl, q1, q2, q3⟩, h3⟩
theorem encode_no {g : G3} (hc : g.chk ≠ 0) (W : World) : Calls Try.prog 7 #[g.val] W fun e w' => e = .returned (.tuple #[.slice none 0 0, .int .i64 g.chk]) ∧ Still W w' :=
  (gencode_any g W).mono fun e w' hh => by
    obtain ⟨v, rfl, _, h2, h3⟩ := hh
    rw [h2 hc]
    exact ⟨rfl, h3⟩
theorem decode_own {g : G3} (hc : g.chk = 0) (v : Value) (lo hi : Nat) (W : World) (h : SlIs W lo hi v g.bytes) (hh : hi ≤ W.heap.size) : Calls Try.prog 9 #[v] W fun e w' => e = .returned (.tuple #[g.val, .int .i64 0]) ∧ Still W w' := by
  obtain ⟨B, N, I, rfl, hm, _⟩ := chk_zero hc
  have hr := hm.range
  have hl : (gN B N I).bytes.length = B := superB_length B N I
  have := gdecode_any v _ lo hi W h hh (by rw [hl]; omega)
  have hi := isG_bytes hc
  rw [show decG (gN B N I).bytes = gN B N I by unfold decG; rw [if_pos hi, readG_bytes hc], show decE (gN B N I).bytes = 0 from if_pos hi] at this
  exact this
theorem decode_yes {bs : List UInt8} (hc : isG bs) (v : Value) (lo hi : Nat) (W : World) (h : SlIs W lo hi v bs) (hh : hi ≤ W.heap.size) (hl : bs.length ≤ 140737488355328) : Calls Try.prog 9 #[v] W fun e w' => e = .returned (.tuple #[(readG bs).val, .int .i64 0]) ∧ Still W w' := by
  have := gdecode_any v _ lo hi W h hh hl
  rw [show decG bs = readG bs from if_pos hc, show decE bs = 0 from if_pos hc] at this
  exact this
theorem decode_no {bs : List UInt8} (hc : ¬ isG bs) (v : Value) (lo hi : Nat) (W : World) (h : SlIs W lo hi v bs) (hh : hi ≤ W.heap.size) (hl : bs.length ≤ 140737488355328) : Calls Try.prog 9 #[v] W fun e w' => e = .returned (.tuple #[.agg #[.int .i64 0, .int .i64 0, .int .i64 0], .int .i64 2]) ∧ Still W w' := by
  have := gdecode_any v _ lo hi W h hh hl
  rw [show decG bs = G3.zero from if_neg hc, show decE bs = 2 from if_neg hc] at this
  exact this

set_option maxHeartbeats 1000000 in
theorem gbytes_big (g : G3) (A : Option Addr) (n c : Nat) (w : World) (hn : 1100 < n) : Calls Try.prog 3 #[g.val, .slice A n c] w fun e w' => e = .returned (.bool true) ∧ Still w w' := by
  have K0 := Lib.hid ((Still.refl w).alloc (.cells #[.int .i64 g.b, .int .i64 g.n, .int .i64 g.i] 23))
  show Calls Try.prog 3 #[.agg #[.int .i64 g.b, .int .i64 g.n, .int .i64 g.i], .slice A n c] w _
  go_enter Try.func3, Try.ntmps3
  go_wp2_with fail
  refine (known10_any _).mono ?_
  rintro e w1 ⟨rfl, k1⟩
  have R := Lib.hid (K0.out.trans k1)
  clear k1 K0
  go_wp2
  go_ret
  exact ⟨rfl, R.out⟩

set_option maxHeartbeats 4000000 in
theorem gbytes_walk (g : G3) (A : Option Addr) (c : Nat) (bs : List UInt8) (w : World) (hx : SlIs w 0 w.heap.size (.slice A bs.length c) bs) (hl : bs.length ≤ 1100) : Calls Try.prog 3 #[g.val, .slice A bs.length c] w fun e w' => e = .returned (.bool true) ∧ Still w w' := by
  have HX : Hid (∀ W, Still w W → SlIs W 0 w.heap.size (.slice A bs.length c) bs) := Lib.hid (fun W k => k.slis hx (Nat.le_refl _))
  have K0 := Lib.hid ((Still.refl w).alloc (.cells #[.int .i64 g.b, .int .i64 g.n, .int .i64 g.i] 23))
  have CK : Hid (∀ W, Calls Try.prog 8 #[.agg #[.int .i64 g.b, .int .i64 g.n, .int .i64 g.i]] W fun e w' => e = .returned (.int .i64 g.chk) ∧ Still W w') := Lib.hid (fun W => check_any g W)
  clear hx
  by_cases hc : g.chk = 0
  · have EN : Hid (∀ W, Calls Try.prog 7 #[.agg #[.int .i64 g.b, .int .i64 g.n, .int .i64 g.i]] W fun e w' => ∃ A c, e = .returned (.tuple #[.slice A g.bytes.length c, .int .i64 0]) ∧ SlIs w' W.heap.size w'.heap.size (.slice A g.bytes.length c) g.bytes ∧ Still W w') := Lib.hid (fun W => encode_yes hc W)
    have DE : Hid (∀ W A m lo, SlIs W lo W.heap.size (.slice A g.bytes.length m) g.bytes → Calls Try.prog 9 #[.slice A g.bytes.length m] W fun e w' => e = .returned (.tuple #[.agg #[.int .i64 g.b, .int .i64 g.n, .int .i64 g.i], .int .i64 0]) ∧ Still W w') := Lib.hid (fun W A m lo h => decode_own hc _ lo W.heap.size W h (Nat.le_refl _))
    have hb : g.b = (g.bytes.length : Int) := by
      obtain ⟨B, N, I, rfl, _, _⟩ := chk_zero hc
      rw [show (gN B N I).bytes.length = B from superB_length B N I]
      rfl
    rw [hc] at CK
    generalize g.bytes = gb at *
    show Calls Try.prog 3 #[.agg #[.int .i64 g.b, .int .i64 g.n, .int .i64 g.i], .slice A bs.length c] w _
    rw [hb] at EN DE CK K0 ⊢
    generalize g.n = gn at *
    generalize g.i = gi at *
    clear hc hb
    go_enter Try.func3, Try.ntmps3
    go_wp2_with fail
    refine (known10_any _).mono ?_
    rintro e w1 ⟨rfl, k1⟩
    obtain ⟨⟨c0, c1, c2⟩, q1⟩ := box_facts k1
    have K1 := Lib.hid q1
    have G1 := Lib.hid (k1.has (Has.new w 23 #[.int .i64 (gb.length : Int), .int .i64 gn, .int .i64 gi]))
    clear k1 q1 K0
    go_wp2_with fail
    refine (EN.out _).mono ?_
    rintro e w2 ⟨A2, n2, rfl, s2, k2⟩
    have S2 := Lib.hid s2
    have K2 := Lib.hid (K1.out.trans k2)
    have G2 := Lib.hid (k2.has G1.out)
    clear c0 c1 c2 s2 k2 K1 G1 EN
    obtain ⟨c0, c1, c2⟩ := G2.out.cells3
    go_wp2_with fail
    refine (CK.out _).mono ?_
    rintro e w3 ⟨rfl, k3⟩
    have D3 := Lib.hid (DE.out w3 A2 n2 _ (((k3.slis S2.out (Nat.le_refl _)).wide2 k3.size)))
    have K3 := Lib.hid (K2.out.trans k3)
    have G3 := Lib.hid (k3.has G2.out)
    clear c0 c1 c2 k3 S2 K2 G2 CK DE
    go_wp2_with fail
    refine D3.out.mono ?_
    rintro e w4 ⟨rfl, k4⟩
    have K4 := Lib.hid (((K3.out.trans k4).alloc (.cells #[.int .i64 (gb.length : Int), .int .i64 gn, .int .i64 gi] 23)))
    have G4 := Lib.hid ((k4.has G3.out).alloc (.cells #[.int .i64 (gb.length : Int), .int .i64 gn, .int .i64 gi] 23))
    obtain ⟨c0, c1, c2⟩ := G4.out.cells3
    clear k4 D3 K3 G3
    by_cases hi : isG bs
    · have DB := Lib.hid (decode_yes hi (.slice A bs.length c) 0 w.heap.size (w4.alloc (.cells #[.int .i64 (gb.length : Int), .int .i64 gn, .int .i64 gi] 23)) (HX.out (w4.alloc (.cells #[.int .i64 (gb.length : Int), .int .i64 gn, .int .i64 gi] 23)) K4.out) K4.out.size (by omega))
      have EN := Lib.hid (fun W => encode_yes hi.1 W)
      have EB := Lib.hid hi.2.symm
      have XV : (readG bs).val = .agg #[.int .i64 (readG bs).b, .int .i64 (readG bs).n, .int .i64 (readG bs).i] := rfl
      rw [XV] at DB EN
      rw [EB.out] at EN
      generalize readG bs = x at *
      clear hi EB XV
      go_wp2_with fail
      refine DB.out.mono ?_
      rintro e v1 ⟨rfl, j1⟩
      obtain ⟨c0, c1, c2⟩ := (Has.new v1 23 #[.int .i64 x.b, .int .i64 x.n, .int .i64 x.i]).cells3
      have J1 := Lib.hid ((K4.out.trans j1).alloc (.cells #[.int .i64 x.b, .int .i64 x.n, .int .i64 x.i] 23))
      clear j1 DB K4
      go_wp2_with fail
      refine (EN.out _).mono ?_
      rintro e v2 ⟨A2, n2, rfl, s2, j2⟩
      have R := Lib.hid (J1.out.trans j2)
      have r1 := run_str _ _ _ _ v2 s2
      have r2 := run_str _ _ _ _ v2 (HX.out v2 R.out)
      clear s2 j2 J1 EN HX c0 c1 c2
      go_wp2
      go_ret
      exact ⟨rfl, R.out⟩
    · have DB := Lib.hid (decode_no hi (.slice A bs.length c) 0 w.heap.size (w4.alloc (.cells #[.int .i64 (gb.length : Int), .int .i64 gn, .int .i64 gi] 23)) (HX.out (w4.alloc (.cells #[.int .i64 (gb.length : Int), .int .i64 gn, .int .i64 gi] 23)) K4.out) K4.out.size (by omega))
      clear hi HX
      go_wp2_with fail
      refine DB.out.mono ?_
      rintro e v1 ⟨rfl, j1⟩
      have R := Lib.hid ((K4.out.trans j1).alloc (.cells #[.int .i64 0, .int .i64 0, .int .i64 0] 23))
      clear j1 DB K4
      go_wp2
      go_ret
      exact ⟨rfl, R.out⟩
  · have EN : Hid (∀ W, Calls Try.prog 7 #[.agg #[.int .i64 g.b, .int .i64 g.n, .int .i64 g.i]] W fun e w' => e = .returned (.tuple #[.slice none 0 0, .int .i64 g.chk]) ∧ Still W w') := Lib.hid (fun W => encode_no hc W)
    have d1 : (g.chk == 0) = false := by simpa using hc
    generalize g.chk = r at *
    show Calls Try.prog 3 #[.agg #[.int .i64 g.b, .int .i64 g.n, .int .i64 g.i], .slice A bs.length c] w _
    clear hc
    go_enter Try.func3, Try.ntmps3
    go_wp2_with fail
    refine (known10_any _).mono ?_
    rintro e w1 ⟨rfl, k1⟩
    obtain ⟨⟨c0, c1, c2⟩, q1⟩ := box_facts k1
    have K1 := Lib.hid q1
    have G1 := Lib.hid (k1.has (Has.new w 23 #[.int .i64 g.b, .int .i64 g.n, .int .i64 g.i]))
    clear k1 q1 K0
    go_wp2_with fail
    refine (EN.out _).mono ?_
    rintro e w2 ⟨rfl, k2⟩
    have K2 := Lib.hid (K1.out.trans k2)
    have G2 := Lib.hid (k2.has G1.out)
    clear c0 c1 c2 k2 K1 G1 EN
    obtain ⟨c0, c1, c2⟩ := G2.out.cells3
    go_wp2_with fail
    refine (CK.out _).mono ?_
    rintro e w3 ⟨rfl, k3⟩
    have K3 := Lib.hid (K2.out.trans k3)
    clear c0 c1 c2 k3 K2 G2 CK
    by_cases hi : isG bs
    · have DB := Lib.hid (decode_yes hi (.slice A bs.length c) 0 w.heap.size w3 (HX.out w3 K3.out) K3.out.size (by omega))
      have EN := Lib.hid (fun W => encode_yes hi.1 W)
      have EB := Lib.hid hi.2.symm
      have XV : (readG bs).val = .agg #[.int .i64 (readG bs).b, .int .i64 (readG bs).n, .int .i64 (readG bs).i] := rfl
      rw [XV] at DB EN
      rw [EB.out] at EN
      generalize readG bs = x at *
      clear hi EB XV
      go_wp2_with fail
      refine DB.out.mono ?_
      rintro e v1 ⟨rfl, j1⟩
      obtain ⟨c0, c1, c2⟩ := (Has.new v1 23 #[.int .i64 x.b, .int .i64 x.n, .int .i64 x.i]).cells3
      have J1 := Lib.hid ((K3.out.trans j1).alloc (.cells #[.int .i64 x.b, .int .i64 x.n, .int .i64 x.i] 23))
      clear j1 DB K3
      go_wp2_with fail
      refine (EN.out _).mono ?_
      rintro e v2 ⟨A2, n2, rfl, s2, j2⟩
      have R := Lib.hid (J1.out.trans j2)
      have r1 := run_str _ _ _ _ v2 s2
      have r2 := run_str _ _ _ _ v2 (HX.out v2 R.out)
      clear s2 j2 J1 EN HX c0 c1 c2
      go_wp2
      go_ret
      exact ⟨rfl, R.out⟩
    · have DB := Lib.hid (decode_no hi (.slice A bs.length c) 0 w.heap.size w3 (HX.out w3 K3.out) K3.out.size (by omega))
      clear hi HX
      go_wp2_with fail
      refine DB.out.mono ?_
      rintro e v1 ⟨rfl, j1⟩
      have R := Lib.hid ((K3.out.trans j1).alloc (.cells #[.int .i64 0, .int .i64 0, .int .i64 0] 23))
      clear j1 DB K3
      go_wp2
      go_ret
      exact ⟨rfl, R.out⟩
end Go.Proofs.Ytfkojilhpkklfaa
