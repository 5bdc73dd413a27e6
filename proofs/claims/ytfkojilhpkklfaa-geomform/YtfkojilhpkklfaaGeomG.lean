/-
  Package geom: takeInt, read.
-/
import Derived.Test.YtfkojilhpkklfaaGeomE
import Derived.Test.YtfkojilhpkklfaaEqualB
namespace Go.Proofs.Ytfkojilhpkklfaa
open Go.RowKit Go.Lib
set_option maxRecDepth 100000

/-! ### what bytes tell -/
def rd0 (bs : List UInt8) : List UInt8 × List UInt8 × Int := rawSt 8 bs 0
def rd1 (bs : List UInt8) : Nat × List UInt8 × Int := takeSt 4 (rd0 bs).2.1 (rd0 bs).2.2
def rd2 (bs : List UInt8) : Nat × List UInt8 × Int := takeSt 4 (rd1 bs).2.1 (rd1 bs).2.2
def rd3 (bs : List UInt8) : Nat × List UInt8 × Int := takeSt 4 (rd2 bs).2.1 (rd2 bs).2.2
def readG (bs : List UInt8) : G3 := gN (rd1 bs).1 (rd2 bs).1 (rd3 bs).1
/-- A geometry's bytes. -/
def G3.bytes (g : G3) : List UInt8 := superB g.b.toNat g.n.toNat g.i.toNat
/-- Are these bytes a geometry's? -/
def isG (bs : List UInt8) : Prop := (readG bs).chk = 0 ∧ bs = (readG bs).bytes
instance (bs : List UInt8) : Decidable (isG bs) := by unfold isG; infer_instance
theorem superB_is {B N I : Nat} (h : 20 ≤ B) : superB B N I = headB ++ (putB 4 B ++ (putB 4 N ++ (putB 4 I ++ List.replicate (B - 20) 0))) := by
  unfold superB cpy
  have hl := numsB_length B N I
  rw [List.take_of_length_le (by omega), hl]
  simp [numsB]
theorem readG_bytes {g : G3} (h : g.chk = 0) : readG g.bytes = g := by
  obtain ⟨B, N, I, rfl, hm, _⟩ := chk_zero h
  have hr := hm.range
  have hn := hm.n
  have hi := hm.i
  show readG (superB B N I) = _
  rw [superB_is (by omega)]
  have e0 : rd0 (headB ++ (putB 4 B ++ (putB 4 N ++ (putB 4 I ++ List.replicate (B - 20) 0)))) = (headB, putB 4 B ++ (putB 4 N ++ (putB 4 I ++ List.replicate (B - 20) 0)), 0) := raw_item headB _
  have e1 : rd1 (headB ++ (putB 4 B ++ (putB 4 N ++ (putB 4 I ++ List.replicate (B - 20) 0)))) = (B, putB 4 N ++ (putB 4 I ++ List.replicate (B - 20) 0), 0) := by
    unfold rd1
    rw [e0]
    have := take_item 4 B (putB 4 N ++ (putB 4 I ++ List.replicate (B - 20) 0)) (by omega) (by omega)
    rw [Nat.mod_eq_of_lt (by omega)] at this
    exact this
  have e2 : rd2 (headB ++ (putB 4 B ++ (putB 4 N ++ (putB 4 I ++ List.replicate (B - 20) 0)))) = (N, putB 4 I ++ List.replicate (B - 20) 0, 0) := by
    unfold rd2
    rw [e1]
    have := take_item 4 N (putB 4 I ++ List.replicate (B - 20) 0) (by omega) (by omega)
    rw [Nat.mod_eq_of_lt (by omega)] at this
    exact this
  have e3 : rd3 (headB ++ (putB 4 B ++ (putB 4 N ++ (putB 4 I ++ List.replicate (B - 20) 0)))) = (I, List.replicate (B - 20) 0, 0) := by
    unfold rd3
    rw [e2]
    have := take_item 4 I (List.replicate (B - 20) 0) (by omega) (by omega)
    rw [Nat.mod_eq_of_lt (by omega)] at this
    exact this
  unfold readG
  rw [e1, e2, e3]
/-- What is Encode's is Decode's. -/
theorem isG_bytes {g : G3} (h : g.chk = 0) : isG g.bytes := by
  unfold isG
  rw [readG_bytes h]
  exact ⟨h, rfl⟩

set_option maxHeartbeats 400000 in
theorem gtakeint_any (lo g : Nat) (bs : List UInt8) (er : Int) (w : World) (hI : InAt w lo g bs er) :
    Calls Try.prog 30 #[.pointer (some ⟨g, 0, none⟩)] w fun e w' => e = .returned (.int .i64 ((takeSt 4 bs er).1 : Int)) ∧ InAt w' lo g (takeSt 4 bs er).2.1 (takeSt 4 bs er).2.2 ∧ Only (fun i => i = g) w w' := by
  have C := Lib.hid (take_any lo g 4 bs er w hI)
  have hl := takeSt_lt 4 bs er
  have hl : (takeSt 4 bs er).1 < 4294967296 := hl
  generalize takeSt 4 bs er = st at *
  have hw : IntKind.i64.wrap (st.1 : Int) = (st.1 : Int) := IntWalk.i64_in _ (by omega)
  clear hI
  go_enter Try.func30, Try.ntmps30
  go_wp2_with fail
  refine C.out.mono ?_
  rintro e w' ⟨rfl, i1, f1⟩
  have R := Lib.hid (And.intro i1 f1)
  clear i1 f1 C
  go_wp2
  go_ret
  exact ⟨rfl, R.out⟩

/-- Between two calls of read: the In and the result's box, both behind w. -/
structure RB (w : World) (g : Nat) (rest : List UInt8) (er : Int) (wr : World) : Prop where
  inp : InAt wr (w.heap.size + 1) g rest er
  res : Has wr w.heap.size 23 #[.int .i64 0, .int .i64 0, .int .i64 0]
  still : Still w wr
section
variable {w wr w' : World} {g : Nat} {rest rest' : List UInt8} {er er' : Int}
theorem RB.step (h : RB w g rest er wr) (i : InAt w' (w.heap.size + 1) g rest' er') (f : Only (fun i => i = g) wr w') : RB w g rest' er' w' := by
  have hl := h.inp.lt
  exact ⟨i, h.res.only f (by omega), Only.trans h.still f (fun i hi e => by omega)⟩
theorem RB.raw (h : RB w g rest er wr) (hl : rest.length ≤ 140737488355328) : Calls Try.prog 29 #[.pointer (some ⟨g, 0, none⟩), .int .i64 8] wr fun e w' => (∃ A n c, e = .returned (.slice A n c)) ∧ RB w g (rawSt 8 rest er).2.1 (rawSt 8 rest er).2.2 w' :=
  (raw_any _ g 8 rest er wr h.inp hl).mono fun e w' hh => by
    obtain ⟨u, rfl, o, i, f⟩ := hh
    obtain ⟨A, c, rfl, _⟩ := owns_slice o
    exact ⟨⟨_, _, _, rfl⟩, h.step i f⟩
theorem RB.take (h : RB w g rest er wr) : Calls Try.prog 30 #[.pointer (some ⟨g, 0, none⟩)] wr fun e w' => e = .returned (.int .i64 ((takeSt 4 rest er).1 : Int)) ∧ RB w g (takeSt 4 rest er).2.1 (takeSt 4 rest er).2.2 w' :=
  (gtakeint_any _ g rest er wr h.inp).mono fun _ _ hh => ⟨hh.1, h.step hh.2.1 hh.2.2⟩
end

/-- What read ends in. -/
def readEnd (bs : List UInt8) : Ending := if isG bs then .returned (readG bs).val else .panicked [{ v := .iface 26 (.int .i64 2), recovered := false }]
theorem Try.geomSize : (Try.prog.info? 23).map (·.size) = some 3 := by kernel_rfl
theorem readEnd_no {bs : List UInt8} (h : ¬ isG bs) : readEnd bs = .panicked [{ v := .iface 26 (.int .i64 2), recovered := false }] := if_neg h
theorem readEnd_yes {bs : List UInt8} (h : isG bs) : readEnd bs = .returned (readG bs).val := if_pos h
set_option maxHeartbeats 4000000 in
theorem gread_any (v : Value) (bs : List UInt8) (lo hi : Nat) (w : World) (hv : SlIs w lo hi v bs) (hhi : hi ≤ w.heap.size) (hl : bs.length ≤ 140737488355328) :
    Calls Try.prog 20 #[v] w fun e w' => e = readEnd bs ∧ Still w w' := by
  have k0 : Still w (w.alloc (.cells #[.int .i64 0, .int .i64 0, .int .i64 0] 23)) := (Still.refl w).alloc _
  have b0 := Has.new w 23 #[.int .i64 0, .int .i64 0, .int .i64 0]
  have C0 := Lib.hid ((of_any v bs lo hi (w.alloc (.cells #[.int .i64 0, .int .i64 0, .int .i64 0] 23)) (hv.only k0 hhi (fun _ _ _ h => h)) (by simp; omega) hl).mono fun e w' hh => (by
    obtain ⟨g, rfl, i, b⟩ := hh
    refine ⟨g, rfl, ⟨?_, b0.only (Only.of_below b) (by simp), k0.trans (Still.of_below b)⟩⟩
    simpa using i : ∃ g, e = .returned (.pointer (some ⟨g, 0, none⟩)) ∧ RB w g bs 0 w'))
  have HV : Hid (∀ wr, Still w wr → SlIs wr lo hi v bs) := Lib.hid (fun wr k => hv.only k hhi (fun _ _ _ h => h))
  clear k0 b0 hv
  obtain ⟨A, n, c, rfl⟩ : ∃ A n c, v = .slice A n c := by
    obtain ⟨A, c, e, _⟩ := HV.out w (Still.refl w)
    exact ⟨A, _, c, e⟩
  obtain ⟨X, hX⟩ : ∃ X, X = (rd1 bs).1 := ⟨_, rfl⟩
  obtain ⟨Y, hY⟩ : ∃ Y, Y = (rd2 bs).1 := ⟨_, rfl⟩
  obtain ⟨Z, hZ⟩ : ∃ Z, Z = (rd3 bs).1 := ⟨_, rfl⟩
  have HG : Hid (readG bs = gN X Y Z) := Lib.hid (by rw [hX, hY, hZ]; rfl)
  have T1 : Hid (∀ g wr, RB w g (rd0 bs).2.1 (rd0 bs).2.2 wr → Calls Try.prog 30 #[.pointer (some ⟨g, 0, none⟩)] wr fun e w' => e = .returned (.int .i64 (X : Int)) ∧ RB w g (rd1 bs).2.1 (rd1 bs).2.2 w') := Lib.hid (fun g wr h => by rw [hX]; exact h.take)
  have T2 : Hid (∀ g wr, RB w g (rd1 bs).2.1 (rd1 bs).2.2 wr → Calls Try.prog 30 #[.pointer (some ⟨g, 0, none⟩)] wr fun e w' => e = .returned (.int .i64 (Y : Int)) ∧ RB w g (rd2 bs).2.1 (rd2 bs).2.2 w') := Lib.hid (fun g wr h => by rw [hY]; exact h.take)
  have T3 : Hid (∀ g wr, RB w g (rd2 bs).2.1 (rd2 bs).2.2 wr → Calls Try.prog 30 #[.pointer (some ⟨g, 0, none⟩)] wr fun e w' => e = .returned (.int .i64 (Z : Int)) ∧ RB w g (rd3 bs).2.1 (rd3 bs).2.2 w') := Lib.hid (fun g wr h => by rw [hZ]; exact h.take)
  have CK : Hid (∀ W, Calls Try.prog 8 #[.agg #[.int .i64 (X : Int), .int .i64 (Y : Int), .int .i64 (Z : Int)]] W fun e w' => e = .returned (.int .i64 (gN X Y Z).chk) ∧ Still W w') := Lib.hid (fun W => check_any (gN X Y Z) W)
  clear hX hY hZ
  go_enter Try.func20, Try.ntmps20
  go_wp2_with fail
  refine C0.out.mono ?_
  rintro e w1 ⟨g, rfl, h1⟩
  have C1 := Lib.hid (h1.raw hl)
  clear C0 h1
  go_wp2_with fail
  refine C1.out.mono ?_
  rintro e w2 ⟨⟨Ar, nr, cr, rfl⟩, h2⟩
  have C2 := Lib.hid (T1.out g w2 h2)
  clear C1 h2 T1
  go_wp2_with fail
  refine C2.out.mono ?_
  rintro e w3 ⟨rfl, h3⟩
  have C3 := Lib.hid (T2.out g w3 h3)
  clear C2 h3 T2
  go_wp2_with fail
  refine C3.out.mono ?_
  rintro e w4 ⟨rfl, h4⟩
  have C4 := Lib.hid (T3.out g w4 h4)
  clear C3 h4 T3
  go_wp2_with fail
  refine C4.out.mono ?_
  rintro e w5 ⟨rfl, h5⟩
  have K5 := Lib.hid h5.still
  have B5 := Lib.hid h5.res
  clear C4 h5
  go_wp2_with fail
  refine (CK.out _).mono ?_
  rintro e w6 ⟨rfl, k6⟩
  obtain ⟨⟨c0, c1, c2⟩, q6⟩ := box_facts k6
  have K6 := Lib.hid (K5.out.trans q6)
  have B6 := Lib.hid (q6.has B5.out)
  have X6 := Lib.hid (k6.has (Has.new w5 23 #[.int .i64 (X : Int), .int .i64 (Y : Int), .int .i64 (Z : Int)]))
  clear k6 q6 K5 B5 CK
  by_cases hc : (gN X Y Z).chk = 0
  · have HC := Lib.hid hc
    obtain ⟨x, y, z, he, hm, _⟩ := chk_zero hc
    obtain ⟨rfl, rfl, rfl⟩ : X = x ∧ Y = y ∧ Z = z := by
      unfold gN at he
      injection he with a b d
      omega
    have SC : Hid (∀ W, Calls Try.prog 17 #[.agg #[.int .i64 (X : Int), .int .i64 (Y : Int), .int .i64 (Z : Int)]] W (NewB W (gN X Y Z).bytes)) := Lib.hid (fun W => super_any hm W)
    rw [hc]
    clear hc he hm
    go_wp2_with fail
    refine (must_yes 2 _).mono ?_
    rintro e w' ⟨rfl, rfl⟩
    go_wp2_with fail
    refine (SC.out _).mono ?_
    rintro e w7 ⟨v7, rfl, o7, k7⟩
    have E7 := Lib.hid (equalb_is lo hi w6.heap.size w7.heap.size (.slice A n c) v7 bs (gN X Y Z).bytes w7 (HV.out w7 (K6.out.trans k7)) (owns_SlIs o7))
    have K7 := Lib.hid (K6.out.trans k7)
    have B7 := k7.has B6.out
    have X7 := k7.has X6.out
    obtain ⟨A7, c7, rfl, _⟩ := owns_slice o7
    have y0 := X7.cell 0
    have y1 := X7.cell 1
    have y2 := X7.cell 2
    have x0 := B7.cell 0
    have x1 := B7.cell 1
    have x2 := B7.cell 2
    have f0 := B7.frozen 0
    have f1 := B7.frozen 1
    have f2 := B7.frozen 2
    simp only [List.getElem?_toArray, List.getElem?_cons_zero, List.getElem?_cons_succ] at x0 x1 x2 y0 y1 y2
    have HB7 := Lib.hid B7
    obtain ⟨d, hd⟩ : ∃ d, d = (gN X Y Z).bytes := ⟨_, rfl⟩
    rw [← hd] at E7 ⊢
    have HD := Lib.hid hd
    clear hd
    clear o7 k7 K6 B6 X6 B7 X7 SC c0 c1 c2 HV
    go_wp2_with fail
    refine E7.out.mono ?_
    rintro e w' ⟨rfl, rfl⟩
    clear E7
    by_cases hb : bs = d
    · have hy : isG bs := by
        refine ⟨by rw [HG.out]; exact HC.out, ?_⟩
        rw [HG.out, ← HD.out]
        exact hb
      have R : Hid (readEnd bs = .returned (.agg #[.int .i64 (X : Int), .int .i64 (Y : Int), .int .i64 (Z : Int)])) := Lib.hid (by rw [readEnd_yes hy, HG.out]; rfl)
      rw [decide_eq_true hb]
      clear hb hy HG HC HD
      go_wp2_with fail
      refine (must_yes 2 _).mono ?_
      rintro e w' ⟨rfl, rfl⟩
      go_wp2_with fail
      refine bodyPost_ret (results_cell_row rfl _ _ w.heap.size 23 _ (0, 0) _ rfl (has_set3 HB7.out _ _ _) Try.underlying23 rfl Try.geomSize) rfl ?_
      exact ⟨R.out.symm, K7.out.set3 (Nat.le_refl _) _ _ _⟩
    · have hn : ¬ isG bs := fun h => hb (by
        have := h.2
        rw [HG.out, ← HD.out] at this
        exact this)
      have RN := Lib.hid (readEnd_no hn)
      rw [decide_eq_false hb]
      clear hb hn HG HC HD
      go_wp2_with fail
      refine (must_no 2 _).mono ?_
      rintro e w' ⟨rfl, rfl⟩
      go_wp2
      exact ⟨rfl, RN.out.symm, K7.out⟩
  · have hn : ¬ isG bs := fun h => hc (by
      have := h.1
      rw [HG.out] at this
      exact this)
    have d1 : decide ((gN X Y Z).chk = 0) = false := decide_eq_false hc
    have d2 : ((gN X Y Z).chk == 0) = false := by simpa using hc
    have RN := Lib.hid (readEnd_no hn)
    generalize (gN X Y Z).chk = r at *
    clear hn HG B6 X6 HV c0 c1 c2 hc
    go_wp2_with fail
    refine (must_no 2 _).mono ?_
    rintro e w' ⟨rfl, rfl⟩
    go_wp2
    exact ⟨rfl, RN.out.symm, K6.out⟩
end Go.Proofs.Ytfkojilhpkklfaa
