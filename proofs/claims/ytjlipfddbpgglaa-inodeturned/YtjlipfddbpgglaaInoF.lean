/-
  Package inode: read.
-/
import Derived.Test.YtjlipfddbpgglaaInoE
import Derived.Test.YtjlipfddbpgglaaEqualB
namespace Go.Proofs.Ytjlipfddbpgglaa
open Go.RowKit Go.Lib
set_option maxRecDepth 100000

/-! ### what is read so far -/
def ri1 (bs : List UInt8) : I14 := ⟨tv 4 (bs, 0), tv 4 (q1 bs), tv 4 (q2 bs), 0, 0, 0, 0, 0, 0, 0, 0, 0, 0, 0⟩
def ri2 (bs : List UInt8) : I14 := { ri1 bs with l := tv 2 (q3 bs) }
def ri3 (bs : List UInt8) : I14 := { ri2 bs with d0 := tv 4 (q5 bs) }
def ri4 (bs : List UInt8) : I14 := { ri3 bs with d1 := tv 4 (q6 bs) }
def ri5 (bs : List UInt8) : I14 := { ri4 bs with d2 := tv 4 (q7 bs) }
def ri6 (bs : List UInt8) : I14 := { ri5 bs with d3 := tv 4 (q8 bs) }
def ri7 (bs : List UInt8) : I14 := { ri6 bs with d4 := tv 4 (q9 bs) }
def ri8 (bs : List UInt8) : I14 := { ri7 bs with d5 := tv 4 (q10 bs) }
def ri9 (bs : List UInt8) : I14 := { ri8 bs with d6 := tv 4 (q11 bs) }
def ri10 (bs : List UInt8) : I14 := { ri9 bs with d7 := tv 4 (q12 bs) }
theorem readI_is (bs : List UInt8) : readI bs = { ri10 bs with a := tv 4 (q13 bs), b := tv 4 (q14 bs) } := by
  unfold readI ri10 ri9 ri8 ri7 ri6 ri5 ri4 ri3 ri2 ri1
  with_reducible rfl
theorem takes_one (k : Nat) (cs : Array Value) (t : List UInt8 × Int) : takesC [k] cs t = (cs.setIfInBounds k (.int .u32 (tv 4 t : Int)), tk 4 t) := rfl
theorem takes_two (k l : Nat) (cs : Array Value) (t : List UInt8 × Int) : takesC [k, l] cs t = ((cs.setIfInBounds k (.int .u32 (tv 4 t : Int))).setIfInBounds l (.int .u32 (tv 4 (tk 4 t) : Int)), tk 4 (tk 4 t)) := rfl
theorem takes_three (k l m : Nat) (cs : Array Value) (t : List UInt8 × Int) : takesC [k, l, m] cs t = (((cs.setIfInBounds k (.int .u32 (tv 4 t : Int))).setIfInBounds l (.int .u32 (tv 4 (tk 4 t) : Int))).setIfInBounds m (.int .u32 (tv 4 (tk 4 (tk 4 t)) : Int)), tk 4 (tk 4 (tk 4 t))) := rfl
theorem set012 (x y z : Nat) : ((I14.zero.cells.setIfInBounds 0 (.int .u32 (x : Int))).setIfInBounds 1 (.int .u32 (y : Int))).setIfInBounds 2 (.int .u32 (z : Int)) = (⟨x, y, z, 0, 0, 0, 0, 0, 0, 0, 0, 0, 0, 0⟩ : I14).cells := rfl
theorem I14.set4 (i : I14) (x : Nat) : i.cells.setIfInBounds 4 (.int .u32 (x : Int)) = (I14.cells { i with d0 := x }) := rfl
theorem I14.set5 (i : I14) (x : Nat) : i.cells.setIfInBounds 5 (.int .u32 (x : Int)) = (I14.cells { i with d1 := x }) := rfl
theorem I14.set6 (i : I14) (x : Nat) : i.cells.setIfInBounds 6 (.int .u32 (x : Int)) = (I14.cells { i with d2 := x }) := rfl
theorem I14.set7 (i : I14) (x : Nat) : i.cells.setIfInBounds 7 (.int .u32 (x : Int)) = (I14.cells { i with d3 := x }) := rfl
theorem I14.set8 (i : I14) (x : Nat) : i.cells.setIfInBounds 8 (.int .u32 (x : Int)) = (I14.cells { i with d4 := x }) := rfl
theorem I14.set9 (i : I14) (x : Nat) : i.cells.setIfInBounds 9 (.int .u32 (x : Int)) = (I14.cells { i with d5 := x }) := rfl
theorem I14.set10 (i : I14) (x : Nat) : i.cells.setIfInBounds 10 (.int .u32 (x : Int)) = (I14.cells { i with d6 := x }) := rfl
theorem I14.set11 (i : I14) (x : Nat) : i.cells.setIfInBounds 11 (.int .u32 (x : Int)) = (I14.cells { i with d7 := x }) := rfl
theorem I14.set_ab (i : I14) (x y : Nat) : (i.cells.setIfInBounds 12 (.int .u32 (x : Int))).setIfInBounds 13 (.int .u32 (y : Int)) = (I14.cells { i with a := x, b := y }) := rfl
theorem ri1_takes (bs : List UInt8) : takesC [0, 1, 2] I14.zero.cells (bs, 0) = ((ri1 bs).cells, q3 bs) := by
  rw [takes_three, set012]
  unfold ri1 q3 q2 q1
  with_reducible rfl
theorem ri3_takes (bs : List UInt8) : takesC [4] (ri2 bs).cells (q5 bs) = ((ri3 bs).cells, q6 bs) := by
  rw [takes_one, I14.set4]
  unfold q6 ri3
  with_reducible rfl
theorem ri4_takes (bs : List UInt8) : takesC [5] (ri3 bs).cells (q6 bs) = ((ri4 bs).cells, q7 bs) := by
  rw [takes_one, I14.set5]
  unfold q7 ri4
  with_reducible rfl
theorem ri5_takes (bs : List UInt8) : takesC [6] (ri4 bs).cells (q7 bs) = ((ri5 bs).cells, q8 bs) := by
  rw [takes_one, I14.set6]
  unfold q8 ri5
  with_reducible rfl
theorem ri6_takes (bs : List UInt8) : takesC [7] (ri5 bs).cells (q8 bs) = ((ri6 bs).cells, q9 bs) := by
  rw [takes_one, I14.set7]
  unfold q9 ri6
  with_reducible rfl
theorem ri7_takes (bs : List UInt8) : takesC [8] (ri6 bs).cells (q9 bs) = ((ri7 bs).cells, q10 bs) := by
  rw [takes_one, I14.set8]
  unfold q10 ri7
  with_reducible rfl
theorem ri8_takes (bs : List UInt8) : takesC [9] (ri7 bs).cells (q10 bs) = ((ri8 bs).cells, q11 bs) := by
  rw [takes_one, I14.set9]
  unfold q11 ri8
  with_reducible rfl
theorem ri9_takes (bs : List UInt8) : takesC [10] (ri8 bs).cells (q11 bs) = ((ri9 bs).cells, q12 bs) := by
  rw [takes_one, I14.set10]
  unfold q12 ri9
  with_reducible rfl
theorem ri10_takes (bs : List UInt8) : takesC [11] (ri9 bs).cells (q12 bs) = ((ri10 bs).cells, q13 bs) := by
  rw [takes_one, I14.set11]
  unfold q13 ri10
  with_reducible rfl
theorem readI_takes (bs : List UInt8) : takesC [12, 13] (ri10 bs).cells (q13 bs) = ((readI bs).cells, q15 bs) := by
  rw [takes_two, I14.set_ab, readI_is]
  unfold q15 q14
  with_reducible rfl

/-- Between two calls of read: the result's box, the In, the inode's box, all behind w. -/
structure IB (w : World) (g gi : Nat) (t : List UInt8 × Int) (i : I14) (wr : World) : Prop where
  inp : InAt wr (w.heap.size + 1) g t.1 t.2
  res : Has wr w.heap.size 26 I14.zero.cells
  box : Has wr gi 26 i.cells
  lt : g < gi
  still : Still w wr
section
variable {w wr w' : World} {g gi : Nat} {t t' : List UInt8 × Int} {i j : I14}
theorem IB.low (h : IB w g gi t i wr) : w.heap.size < g ∧ g < gi ∧ gi < wr.heap.size := by
  have := h.inp.lt
  have := h.box.lt
  have := h.lt
  omega
theorem IB.step (h : IB w g gi t i wr) (i1 : InAt w' (w.heap.size + 1) g t'.1 t'.2) (f : Only (fun i => i = g) wr w') : IB w g gi t' i w' := by
  have hl := h.low
  exact ⟨i1, h.res.only f (by omega), h.box.only f (by omega), h.lt, Only.trans h.still f (fun i hi e => by omega)⟩
theorem IB.take2 (h : IB w g gi t i wr) : Calls Try.prog 31 #[.pointer (some ⟨g, 0, none⟩), .int .i64 2] wr fun e w' => e = .returned (.int .u64 (tv 2 t : Int)) ∧ IB w g gi (tk 2 t) i w' :=
  (take_any _ g 2 t.1 t.2 wr h.inp).mono fun _ _ hh => ⟨hh.1, h.step hh.2.1 hh.2.2⟩
theorem IB.raw2 (h : IB w g gi t i wr) (hl : t.1.length ≤ 140737488355328) : Calls Try.prog 32 #[.pointer (some ⟨g, 0, none⟩), .int .i64 2] wr fun e w' => (∃ A n c, e = .returned (.slice A n c)) ∧ IB w g gi (rw2 2 t) i w' :=
  (raw_any _ g 2 t.1 t.2 wr h.inp hl).mono fun e w' hh => by
    obtain ⟨u, rfl, o, i1, f⟩ := hh
    obtain ⟨A, c, rfl, _⟩ := owns_slice o
    exact ⟨⟨_, _, _, rfl⟩, h.step i1 f⟩
theorem IB.set (h : IB w g gi t i wr) (k : Nat) (u : Value) (hj : j.cells = i.cells.setIfInBounds k u) : IB w g gi t j (wr.setCell ⟨gi, k, none⟩ u) := by
  have hl := h.low
  have f : Only (fun i => i = gi) wr (wr.setCell ⟨gi, k, none⟩ u) := (Only.refl (fun i => i = gi) wr).setCell (p := ⟨gi, k, none⟩) (fun _ => rfl) u
  refine ⟨h.inp.only f (fun i _ hi e => by omega), h.res.only f (by omega), ?_, h.lt, Only.trans h.still f (fun i hi e => by omega)⟩
  rw [hj]
  exact h.box.set k u
/-- Numbers taken to where a new row points. -/
theorem IB.takes (h : IB w g gi t i wr) (ks : List Nat) (cs : Array Value) (hcs : cs = (ptrv gi ks).toArray) (n : Nat) (hns : ks.length = n) (hk : ∀ j (hj : j < ks.length), ks[j] < 14) (hl : ks.length ≤ 1000) (hT : takesC ks i.cells t = (j.cells, t')) :
    Calls Try.prog 30 #[.pointer (some ⟨g, 0, none⟩), .slice (some ⟨wr.heap.size, 0, none⟩) n n] (wr.alloc (.cells cs 61)) fun e w' => e = .returned (.tuple #[]) ∧ IB w g gi t' j w' := by
  subst hcs hns
  have hlow := h.low
  have k0 : Still wr (wr.alloc (.cells (ptrv gi ks).toArray 61)) := (Still.refl wr).alloc _
  have hr : RwIs (wr.alloc (.cells (ptrv gi ks).toArray 61)) (fun i => i = wr.heap.size) ks.length (.slice (some ⟨wr.heap.size, 0, none⟩) ks.length ks.length) (ptrv gi ks) :=
    ⟨_, _, rfl, fun _ => ⟨_, rfl, rfl, by simp, fun j u hu => by
      have := (Has.new wr 61 (ptrv gi ks).toArray).cell j
      rw [List.getElem?_toArray, hu] at this
      rw [Addr.add_lit, Nat.zero_add]
      exact this⟩⟩
  refine (takes_any (w.heap.size + 1) g gi wr.heap.size ks _ i.cells t _ (h.inp.only k0 (fun _ _ _ h => h)) (k0.has h.box) rfl hr h.lt (by omega) hk hl).mono fun e w' hh => ?_
  obtain ⟨he, i1, b1, f1⟩ := hh
  rw [hT] at i1 b1
  exact ⟨he, i1, (k0.has h.res).only f1 (by omega), b1, h.lt, Only.trans (h.still.trans k0) f1 (fun i hi e => by omega)⟩
end
theorem tk_len (n : Int) (t : List UInt8 × Int) : (tk n t).1.length ≤ t.1.length := by
  unfold tk takeSt
  split
  · exact Nat.le_refl _
  · split
    · exact Nat.zero_le _
    · split
      · exact Nat.zero_le _
      · simp

open Classical in
/-- What read ends in. -/
noncomputable def ireadEnd (bs : List UInt8) : Ending := if isI bs then .returned (.agg (readI bs).cells) else .panicked [{ v := .iface 29 (.int .i64 2), recovered := false }]
theorem ireadEnd_no {bs : List UInt8} (h : ¬ isI bs) : ireadEnd bs = .panicked [{ v := .iface 29 (.int .i64 2), recovered := false }] := if_neg h
theorem ireadEnd_yes {bs : List UInt8} (h : isI bs) : ireadEnd bs = .returned (.agg (readI bs).cells) := if_pos h
theorem q4_len (bs : List UInt8) : (q4 bs).1.length ≤ bs.length :=
  Nat.le_trans (tk_len 2 (q3 bs)) (Nat.le_trans (tk_len 4 (q2 bs)) (Nat.le_trans (tk_len 4 (q1 bs)) (tk_len 4 (bs, 0))))
set_option maxHeartbeats 4000000 in
theorem iread_any (v : Value) (bs : List UInt8) (lo hi : Nat) (w : World) (hv : SlIs w lo hi v bs) (hhi : hi ≤ w.heap.size) (hl : bs.length ≤ 140737488355328) :
    Calls Try.prog 21 #[v] w fun e w' => e = ireadEnd bs ∧ Still w w' := by
  have k0 : Still w (w.alloc (.cells I14.zero.cells 26)) := (Still.refl w).alloc _
  have b0 := Has.new w 26 I14.zero.cells
  have C0 := Lib.hid ((of_any v bs lo hi (w.alloc (.cells I14.zero.cells 26)) (hv.only k0 hhi (fun _ _ _ h => h)) (by simp; omega) hl).mono fun e w' hh => (by
    obtain ⟨g, rfl, i, b⟩ := hh
    refine ⟨g, rfl, ?_⟩
    have i2 : InAt w' (w.heap.size + 1) g bs 0 := by simpa using i
    have k1 : Still w' (w'.alloc (.cells I14.zero.cells 26)) := (Still.refl w').alloc _
    exact ⟨i2.only k1 (fun _ _ _ h => h), k1.has (b0.only (Only.of_below b) (by simp)), Has.new w' 26 I14.zero.cells, i2.lt.2, (k0.trans (Still.of_below b)).trans k1⟩
    : ∃ g, e = .returned (.pointer (some ⟨g, 0, none⟩)) ∧ IB w g w'.heap.size (bs, 0) I14.zero (w'.alloc (.cells I14.zero.cells 26))))
  have HV : Hid (∀ wr, Still w wr → SlIs wr lo hi v bs) := Lib.hid (fun wr k => hv.only k hhi (fun _ _ _ h => h))
  have HL := Lib.hid (Nat.le_trans (q4_len bs) hl)
  have Z0 : I14.zero.cells = #[.int .u32 0, .int .u32 0, .int .u32 0, .int .u16 0, .int .u32 0, .int .u32 0, .int .u32 0, .int .u32 0, .int .u32 0, .int .u32 0, .int .u32 0, .int .u32 0, .int .u32 0, .int .u32 0] := rfl
  have CK := Lib.hid (fun W => icheck_any (readI bs) W)
  clear k0 b0 hv
  obtain ⟨A, n, c, rfl⟩ : ∃ A n c, v = .slice A n c := by
    obtain ⟨A, c, e, _⟩ := HV.out w (Still.refl w)
    exact ⟨A, _, c, e⟩
  rw [Z0] at C0
  clear Z0
  go_enter Try.func21, Try.ntmps21
  go_wp2_with fail
  refine C0.out.mono ?_
  rintro e w1 ⟨g, rfl, h1⟩
  obtain ⟨gi, hgi⟩ : ∃ gi, gi = w1.heap.size := ⟨_, rfl⟩
  rw [← hgi] at h1
  have SZ : (w1.alloc (.cells #[.int .u32 0, .int .u32 0, .int .u32 0, .int .u16 0, .int .u32 0, .int .u32 0, .int .u32 0, .int .u32 0, .int .u32 0, .int .u32 0, .int .u32 0, .int .u32 0, .int .u32 0, .int .u32 0] 26)).heap.size = gi + 1 := by rw [hgi]; simp
  have C1 := Lib.hid (h1.takes [0, 1, 2] #[.pointer (some ⟨gi, 0, none⟩), .pointer (some ⟨gi, 1, none⟩), .pointer (some ⟨gi, 2, none⟩)] rfl 3 rfl (by decide) (by decide) (ri1_takes bs))
  rw [SZ, hgi] at C1
  clear C0 h1 SZ
  go_wp2_with fail
  refine C1.out.mono ?_
  rintro e w2 ⟨rfl, h2⟩
  have C2 := Lib.hid h2.take2
  rw [← hgi] at C2
  clear C1 h2
  simp only [← hgi]
  clear hgi
  go_wp2_with fail
  refine C2.out.mono ?_
  rintro e w3 ⟨rfl, h3⟩
  have x3 := h3.box.cell 3
  have f3 := h3.box.frozen 3
  have x3 : w3.cell? ⟨gi, 3, none⟩ = some (.int .u16 0) := x3
  have hlt := tv2_lt (q3 bs)
  have hw : IntKind.u16.wrap (tv 2 (q3 bs) : Int) = (tv 2 (q3 bs) : Int) := IntWalk.u16_in _ (by omega)
  have C3 := Lib.hid (IB.raw2 (h3.set (j := ri2 bs) 3 (.int .u16 (tv 2 (q3 bs) : Int)) rfl) HL.out)
  clear C2 h3 hlt HL
  go_wp2_with fail
  refine C3.out.mono ?_
  rintro e w4 ⟨⟨Ar, nr, cr, rfl⟩, h4⟩
  have C4 := Lib.hid (h4.takes [4] #[.pointer (some ⟨gi, 4, none⟩)] rfl 1 rfl (by decide) (by decide) (ri3_takes bs))
  clear C3 h4 x3 f3 hw
  go_wp2
  refine wp_loop_rounds 9 ?_
  rw [rounds_succ]
  go_wp2_with fail
  refine C4.out.mono ?_
  rintro e w5 ⟨rfl, h5⟩
  have C5 := Lib.hid (h5.takes [5] #[.pointer (some ⟨gi, 5, none⟩)] rfl 1 rfl (by decide) (by decide) (ri4_takes bs))
  clear C4 h5
  go_wp2
  rw [rounds_succ]
  go_wp2_with fail
  refine C5.out.mono ?_
  rintro e w6 ⟨rfl, h6⟩
  have C6 := Lib.hid (h6.takes [6] #[.pointer (some ⟨gi, 6, none⟩)] rfl 1 rfl (by decide) (by decide) (ri5_takes bs))
  clear C5 h6
  go_wp2
  rw [rounds_succ]
  go_wp2_with fail
  refine C6.out.mono ?_
  rintro e w7 ⟨rfl, h7⟩
  have C7 := Lib.hid (h7.takes [7] #[.pointer (some ⟨gi, 7, none⟩)] rfl 1 rfl (by decide) (by decide) (ri6_takes bs))
  clear C6 h7
  go_wp2
  rw [rounds_succ]
  go_wp2_with fail
  refine C7.out.mono ?_
  rintro e w8 ⟨rfl, h8⟩
  have C8 := Lib.hid (h8.takes [8] #[.pointer (some ⟨gi, 8, none⟩)] rfl 1 rfl (by decide) (by decide) (ri7_takes bs))
  clear C7 h8
  go_wp2
  rw [rounds_succ]
  go_wp2_with fail
  refine C8.out.mono ?_
  rintro e w9 ⟨rfl, h9⟩
  have C9 := Lib.hid (h9.takes [9] #[.pointer (some ⟨gi, 9, none⟩)] rfl 1 rfl (by decide) (by decide) (ri8_takes bs))
  clear C8 h9
  go_wp2
  rw [rounds_succ]
  go_wp2_with fail
  refine C9.out.mono ?_
  rintro e w10 ⟨rfl, h10⟩
  have C10 := Lib.hid (h10.takes [10] #[.pointer (some ⟨gi, 10, none⟩)] rfl 1 rfl (by decide) (by decide) (ri9_takes bs))
  clear C9 h10
  go_wp2
  rw [rounds_succ]
  go_wp2_with fail
  refine C10.out.mono ?_
  rintro e w11 ⟨rfl, h11⟩
  have C11 := Lib.hid (h11.takes [11] #[.pointer (some ⟨gi, 11, none⟩)] rfl 1 rfl (by decide) (by decide) (ri10_takes bs))
  clear C10 h11
  go_wp2
  rw [rounds_succ]
  go_wp2_with fail
  refine C11.out.mono ?_
  rintro e w12 ⟨rfl, h12⟩
  have C12 := Lib.hid (h12.takes [12, 13] #[.pointer (some ⟨gi, 12, none⟩), .pointer (some ⟨gi, 13, none⟩)] rfl 2 rfl (by decide) (by decide) (readI_takes bs))
  clear C11 h12
  go_wp2
  rw [rounds_succ]
  go_wp2_with fail
  refine C12.out.mono ?_
  rintro e w13 ⟨rfl, h13⟩
  have HZ := Lib.hid (readI bs).cells_size
  have HO := Lib.hid (readI bs).cells_one
  have WR : Hid (∀ W, Calls Try.prog 18 #[.agg (readI bs).cells] W (NewB W (readI bs).bytes)) := Lib.hid (fun W => written_any _ (readI_num bs) W)
  have K13 := Lib.hid h13.still
  have B13 := Lib.hid h13.box
  have R13 := Lib.hid h13.res
  clear C12 h13
  have HG : Hid (readI bs = readI bs) := Lib.hid rfl
  obtain ⟨cs, hcs⟩ : ∃ cs, cs = (readI bs).cells := ⟨_, rfl⟩
  have HCS := Lib.hid hcs
  rw [← hcs] at CK HZ HO WR B13
  clear hcs
  go_wp2_with (first
    | (refine load_struct Try.underlying26 rfl Try.inoSize gi cs (.tmp 4) rfl rfl rfl B13.out HZ.out ?_)
    | fail)
  refine (CK.out _).mono ?_
  rintro e w14 ⟨rfl, k14⟩
  have K14 := Lib.hid (K13.out.trans k14)
  have B14 := Lib.hid (k14.has B13.out)
  have R14 := Lib.hid (k14.has R13.out)
  clear k14 K13 B13 R13 CK
  by_cases hc : (readI bs).May
  · have HC := Lib.hid hc
    rw [I14.chk_yes hc]
    clear hc
    go_wp2_with fail
    refine (must_yes 2 _).mono ?_
    rintro e w' ⟨rfl, rfl⟩
    go_wp2_with (first
      | (refine load_struct Try.underlying26 rfl Try.inoSize gi cs (.tmp 4) rfl rfl rfl B14.out HZ.out ?_)
      | fail)
    refine (WR.out _).mono ?_
    rintro e w15 ⟨v15, rfl, o15, k15⟩
    have E15 := Lib.hid (equalb_is lo hi w14.heap.size w15.heap.size (.slice A n c) v15 bs (readI bs).bytes w15 (HV.out w15 (K14.out.trans k15)) (owns_SlIs o15))
    have K15 := Lib.hid (K14.out.trans k15)
    have B15 := Lib.hid (k15.has B14.out)
    have R15 := Lib.hid (k15.has R14.out)
    obtain ⟨A15, c15, rfl, _⟩ := owns_slice o15
    obtain ⟨d, hd⟩ : ∃ d, d = (readI bs).bytes := ⟨_, rfl⟩
    rw [← hd] at E15 ⊢
    have HD := Lib.hid hd
    clear hd
    clear o15 k15 K14 B14 R14 WR HV
    go_wp2_with fail
    refine E15.out.mono ?_
    rintro e w' ⟨rfl, rfl⟩
    clear E15
    by_cases hb : bs = d
    · have hy : isI bs := ⟨HC.out, by rw [← HD.out]; exact hb⟩
      have R : Hid (ireadEnd bs = .returned (.agg cs)) := Lib.hid (by rw [ireadEnd_yes hy, HCS.out])
      rw [decide_eq_true hb]
      clear hb hy HG HC HD
      go_wp2_with fail
      refine (must_yes 2 _).mono ?_
      rintro e w' ⟨rfl, rfl⟩
      go_wp2_with (first
        | (refine load_struct Try.underlying26 rfl Try.inoSize gi cs (.tmp 4) rfl rfl rfl B15.out HZ.out ?_)
        | (refine store_struct Try.inoSize w.heap.size cs (.tmp 2) (.tmp 44) rfl rfl rfl rfl R15.out rfl HZ.out HO.out ?_)
        | fail)
      refine bodyPost_ret (results_cell_row rfl _ _ w.heap.size 26 _ (0, 0) _ rfl (R15.out.setRow cs) Try.underlying26 rfl (by rw [HZ.out]; exact Try.inoSize)) rfl ?_
      exact ⟨R.out.symm, Only.setRow K15.out (fun h => absurd h (Nat.lt_irrefl _)) cs⟩
    · have hn : ¬ isI bs := fun h => hb (by rw [HD.out]; exact h.2)
      have RN := Lib.hid (ireadEnd_no hn)
      rw [decide_eq_false hb]
      clear hb hn HG HC HD
      go_wp2_with fail
      refine (must_no 2 _).mono ?_
      rintro e w' ⟨rfl, rfl⟩
      go_wp2
      exact ⟨rfl, RN.out.symm, K15.out⟩
  · have hn : ¬ isI bs := fun h => hc h.1
    have RN := Lib.hid (ireadEnd_no hn)
    rw [I14.chk_no hc]
    clear hn HG B14 HV hc
    go_wp2_with fail
    refine (must_no 2 _).mono ?_
    rintro e w' ⟨rfl, rfl⟩
    go_wp2
    exact ⟨rfl, RN.out.symm, K14.out⟩
end Go.Proofs.Ytjlipfddbpgglaa
