/-
  Package stat: takeText, record, take: what each does to an In, and what it answers or panics with.
-/
import Derived.Test.YtepiifbleoimkaaDoorStatD
namespace Go.Proofs.YtepiifbleoimkaaDoor
open Go.RowKit
set_option maxRecDepth 100000

/-- What a text's taking leaves: the text, or ErrForm. -/
def TTextStep (w : World) (lo g : Nat) (r : Option (List UInt8 × List UInt8)) (e : Ending) (w' : World) : Prop :=
  match r with
  | some (t, rest) => e = .returned (.string (strOf t)) ∧ InAt w' lo g rest 0 ∧ Only (fun i => i = g) w w'
  | none => e = .panicked [{ v := .iface 36 (.int .i64 2), recovered := false }] ∧ Only (fun i => i = g) w w'

set_option maxHeartbeats 1000000 in
theorem taketext_any (lo g : Nat) (bs : List UInt8) (er : Int) (w : World) (hI : InAt w lo g bs er) (hT : Tabs w) (h1 : ¬ 1 = g) (h2 : ¬ 2 = g) (hb : bs.length ≤ 140737488355328) :
    Calls Tryd.prog 98 #[.pointer (some ⟨g, 0, none⟩)] w (TTextStep w lo g (textSt bs er)) := by
  have C := Lib.hid (ttake_any lo g bs er w hI hT h1 h2 hb)
  have hz := @tans_zero bs er
  have hs : textSt bs er = if (tans bs er).2 = 0 then some ((tans bs er).1, (tst bs er).2.1) else none := rfl
  unfold TTake at C
  generalize tans bs er = A at C hz hs
  generalize tst bs er = B at C hz hs
  obtain ⟨t, x⟩ := A
  obtain ⟨b1, b2, b3⟩ := B
  simp only at C hz hs
  clear hI hT h1 h2 hb
  by_cases h0 : x = 0
  · subst h0
    have h3 := (hz rfl).1
    subst h3
    rw [if_pos rfl] at hs
    rw [hs]
    clear hz hs
    go_enter Tryd.func98, Tryd.ntmps98
    go_wp2_with fail
    refine C.out.mono ?_
    rintro e w1 ⟨rfl, i1, f1⟩
    have R : Hid (TTextStep w lo g (some (t, b2)) (.returned (.string (strOf t))) w1) := ⟨rfl, i1, f1⟩
    clear i1 f1 C
    go_wp2_with fail
    refine (must_yes 2 w1).mono ?_
    rintro e w' ⟨rfl, rfl⟩
    go_wp2
    go_ret
    exact R.out
  · rw [if_neg h0] at hs
    rw [hs]
    have hd : (x == 0) = false := by simpa using h0
    clear hz hs h0
    go_enter Tryd.func98, Tryd.ntmps98
    go_wp2_with fail
    refine C.out.mono ?_
    rintro e w1 ⟨rfl, i1, f1⟩
    have R : Hid (TTextStep w lo g none (.panicked [{ v := .iface 36 (.int .i64 2), recovered := false }]) w1) := ⟨rfl, f1⟩
    clear i1 f1 C
    go_wp2_with fail
    refine (must_no 2 w1).mono ?_
    rintro e w' ⟨rfl, rfl⟩
    go_wp2
    exact ⟨rfl, R.out⟩

theorem Tryd.statSize13 : (Tryd.prog.info? 31).map (·.size) = some 13 := by kernel_rfl
/-- A whole record stored. -/
def set13 (w : World) (b : Nat) (s : S11) : World :=
  ((((((((((((w.setCell ⟨b, 0, none⟩ (.int .u16 (s.k : Int))).setCell ⟨b, 1, none⟩ (.int .u32 (s.d : Int))).setCell ⟨b, 2, none⟩ (.int .u8 (s.q.t : Int))).setCell ⟨b, 3, none⟩ (.int .u32 (s.q.v : Int))).setCell ⟨b, 4, none⟩ (.int .u64 (s.q.p : Int))).setCell
    ⟨b, 5, none⟩ (.int .u32 (s.m : Int))).setCell ⟨b, 6, none⟩ (.int .u32 (s.a : Int))).setCell ⟨b, 7, none⟩ (.int .u32 (s.c : Int))).setCell ⟨b, 8, none⟩ (.int .u64 (s.l : Int))).setCell
    ⟨b, 9, none⟩ (.string (strOf s.n))).setCell ⟨b, 10, none⟩ (.string (strOf s.u))).setCell ⟨b, 11, none⟩ (.string (strOf s.g))).setCell ⟨b, 12, none⟩ (.string (strOf s.x))
theorem has_set13 {w : World} {b : Nat} {t : TypeId} {r : S11} (h : Has w b t r.cells) (s : S11) : Has (set13 w b s) b t s.cells := by
  have k1 := h.set 0 (.int .u16 (s.k : Int))
  have k2 := k1.set 1 (.int .u32 (s.d : Int))
  have k3 := k2.set 2 (.int .u8 (s.q.t : Int))
  have k4 := k3.set 3 (.int .u32 (s.q.v : Int))
  have k5 := k4.set 4 (.int .u64 (s.q.p : Int))
  have k6 := k5.set 5 (.int .u32 (s.m : Int))
  have k7 := k6.set 6 (.int .u32 (s.a : Int))
  have k8 := k7.set 7 (.int .u32 (s.c : Int))
  have k9 := k8.set 8 (.int .u64 (s.l : Int))
  have k10 := k9.set 9 (.string (strOf s.n))
  have k11 := k10.set 10 (.string (strOf s.u))
  have k12 := k11.set 11 (.string (strOf s.g))
  have k13 := k12.set 12 (.string (strOf s.x))
  simp only [S11.cells, List.setIfInBounds_toArray, List.set_cons_zero, List.set_cons_succ] at k13
  exact k13
theorem Only.set13 {S : Nat → Prop} {a w : World} (h : Only S a w) {b : Nat} (hb : b < a.heap.size → S b) (s : S11) : Only S a (set13 w b s) :=
  ((((((((((((h.setCell (p := ⟨b, 0, none⟩) hb _).setCell (p := ⟨b, 1, none⟩) hb _).setCell (p := ⟨b, 2, none⟩) hb _).setCell (p := ⟨b, 3, none⟩) hb _).setCell (p := ⟨b, 4, none⟩) hb _).setCell (p := ⟨b, 5, none⟩) hb _).setCell
    (p := ⟨b, 6, none⟩) hb _).setCell (p := ⟨b, 7, none⟩) hb _).setCell (p := ⟨b, 8, none⟩) hb _).setCell (p := ⟨b, 9, none⟩) hb _).setCell (p := ⟨b, 10, none⟩) hb _).setCell (p := ⟨b, 11, none⟩) hb _).setCell (p := ⟨b, 12, none⟩) hb _
/-- The cells of a record are no frozen ones. -/
theorem Has.frozen13 {w : World} {b : Nat} {t : TypeId} {cs : Array Value} (h : Has w b t cs) :
    (w.frozen? ⟨b, 0, none⟩ = false ∧ w.frozen? ⟨b, 1, none⟩ = false ∧ w.frozen? ⟨b, 2, none⟩ = false ∧ w.frozen? ⟨b, 3, none⟩ = false ∧ w.frozen? ⟨b, 4, none⟩ = false) ∧
    (w.frozen? ⟨b, 5, none⟩ = false ∧ w.frozen? ⟨b, 6, none⟩ = false ∧ w.frozen? ⟨b, 7, none⟩ = false ∧ w.frozen? ⟨b, 8, none⟩ = false) ∧
    (w.frozen? ⟨b, 9, none⟩ = false ∧ w.frozen? ⟨b, 10, none⟩ = false ∧ w.frozen? ⟨b, 11, none⟩ = false ∧ w.frozen? ⟨b, 12, none⟩ = false) :=
  ⟨⟨h.frozen 0, h.frozen 1, h.frozen 2, h.frozen 3, h.frozen 4⟩, ⟨h.frozen 5, h.frozen 6, h.frozen 7, h.frozen 8⟩, ⟨h.frozen 9, h.frozen 10, h.frozen 11, h.frozen 12⟩⟩

/-- What a record's reading leaves. -/
def RecStep (w : World) (r : Option S11) (e : Ending) (w' : World) : Prop :=
  match r with
  | some s => e = .returned s.val ∧ Below w.heap.size w w'
  | none => e = .panicked [{ v := .iface 36 (.int .i64 2), recovered := false }] ∧ Below w.heap.size w w'
/-- Between the takes of a record's reading. -/
structure Mid (w : World) (lo g : Nat) (bs : List UInt8) (er : Int) (w1 : World) : Prop where
  inn : InAt w1 lo g bs er
  low : Below w.heap.size w w1
  res : Has w1 w.heap.size 31 S11.zero.cells
theorem Mid.step {w w1 w2 : World} {lo g : Nat} {bs bs2 : List UInt8} {er er2 : Int} (m : Mid w lo g bs er w1) (hg : w.heap.size < g) (i : InAt w2 lo g bs2 er2) (f : Only (fun i => i = g) w1 w2) : Mid w lo g bs2 er2 w2 :=
  ⟨i, m.low.trans (f.below m.low.size (fun i hi h => by omega)), m.res.only f (by omega)⟩
theorem Mid.tabs {w w1 : World} {lo g : Nat} {bs : List UInt8} {er : Int} (m : Mid w lo g bs er w1) (hT : Tabs w) : Tabs w1 := hT.below m.low

theorem takeSt_len (n : Int) (bs : List UInt8) (er : Int) : (takeSt n bs er).2.1.length ≤ bs.length := by
  unfold takeSt
  repeat' split
  all_goals simp
theorem rawSt_len2 (n : Int) (bs : List UInt8) (er : Int) : (rawSt n bs er).2.1.length ≤ bs.length := by
  unfold rawSt
  repeat' split
  all_goals simp
theorem qTake_len (bs : List UInt8) (er : Int) : (qTake bs er).2.1.length ≤ bs.length := by
  unfold qTake
  simp only
  exact Nat.le_trans (takeSt_len _ _ _) (Nat.le_trans (takeSt_len _ _ _) (takeSt_len _ _ _))
theorem tst_len (bs : List UInt8) (er : Int) : (tst bs er).2.1.length ≤ bs.length := by
  unfold tst
  exact Nat.le_trans (rawSt_len2 _ _ _) (takeSt_len _ _ _)
theorem textSt_len {bs : List UInt8} {er : Int} {t r : List UInt8} (h : textSt bs er = some (t, r)) : r.length ≤ bs.length := by
  rw [(textSt_some h).2.2.1]
  exact tst_len _ _

set_option maxHeartbeats 1000000 in
theorem record_any (v : Value) (bs : List UInt8) (lo hi : Nat) (w : World) (hv : SlIs w lo hi v bs) (hhi : hi ≤ w.heap.size) (hl : bs.length ≤ 100000) (hT : Tabs w) :
    Calls Tryd.prog 95 #[v] w (RecStep w (recOf bs)) := by
  have tk := takeSt_lt 2 bs 0
  have nk := takeSt_len 2 bs 0
  obtain ⟨k, hk⟩ : ∃ k, k = takeSt 2 bs 0 := ⟨_, rfl⟩
  rw [show takeSt ((2 : Nat) : Int) bs 0 = k from hk.symm] at tk
  rw [← hk] at nk
  have td := takeSt_lt 4 k.2.1 k.2.2
  have nd := takeSt_len 4 k.2.1 k.2.2
  obtain ⟨d, hd⟩ : ∃ d, d = takeSt 4 k.2.1 k.2.2 := ⟨_, rfl⟩
  rw [show takeSt ((4 : Nat) : Int) k.2.1 k.2.2 = d from hd.symm] at td
  rw [← hd] at nd
  have tq := qTake_ok d.2.1 d.2.2
  have nq := qTake_len d.2.1 d.2.2
  obtain ⟨q, hq⟩ : ∃ q, q = qTake d.2.1 d.2.2 := ⟨_, rfl⟩
  rw [← hq] at tq nq
  have tm := takeSt_lt 4 q.2.1 q.2.2
  have nm := takeSt_len 4 q.2.1 q.2.2
  obtain ⟨m, hm⟩ : ∃ m, m = takeSt 4 q.2.1 q.2.2 := ⟨_, rfl⟩
  rw [show takeSt ((4 : Nat) : Int) q.2.1 q.2.2 = m from hm.symm] at tm
  rw [← hm] at nm
  have ta := takeSt_lt 4 m.2.1 m.2.2
  have na := takeSt_len 4 m.2.1 m.2.2
  obtain ⟨a, ha⟩ : ∃ a, a = takeSt 4 m.2.1 m.2.2 := ⟨_, rfl⟩
  rw [show takeSt ((4 : Nat) : Int) m.2.1 m.2.2 = a from ha.symm] at ta
  rw [← ha] at na
  have tc := takeSt_lt 4 a.2.1 a.2.2
  have nc := takeSt_len 4 a.2.1 a.2.2
  obtain ⟨c, hc⟩ : ∃ c, c = takeSt 4 a.2.1 a.2.2 := ⟨_, rfl⟩
  rw [show takeSt ((4 : Nat) : Int) a.2.1 a.2.2 = c from hc.symm] at tc
  rw [← hc] at nc
  have tl := takeSt_lt 8 c.2.1 c.2.2
  have nl := takeSt_len 8 c.2.1 c.2.2
  obtain ⟨l, hl⟩ : ∃ l, l = takeSt 8 c.2.1 c.2.2 := ⟨_, rfl⟩
  rw [show takeSt ((8 : Nat) : Int) c.2.1 c.2.2 = l from hl.symm] at tl
  rw [← hl] at nl
  have hr : recOf bs = (textSt l.2.1 l.2.2).bind fun n => (textSt n.2 0).bind fun u => (textSt u.2 0).bind fun g => (textSt g.2 0).bind fun x =>
      if x.2 = [] then some ⟨k.1, d.1, q.1, m.1, a.1, c.1, l.1, n.1, u.1, g.1, x.1⟩ else none := by
    rw [hl, hc, ha, hm, hq, hd, hk]
    rfl
  obtain ⟨k1, k2, k3⟩ := k
  obtain ⟨d1, d2, d3⟩ := d
  obtain ⟨q1, q2, q3⟩ := q
  obtain ⟨m1, m2, m3⟩ := m
  obtain ⟨a1, a2, a3⟩ := a
  obtain ⟨c1, c2, c3⟩ := c
  obtain ⟨l1, l2, l3⟩ := l
  simp only at hr tk nk hk td nd hd tq nq hq tm nm hm ta na ha tc nc hc tl nl hl
  have wk : IntKind.u16.wrap (k1 : Int) = (k1 : Int) := IntWalk.u16_in _ (by omega)
  have wd : IntKind.u32.wrap (d1 : Int) = (d1 : Int) := IntWalk.u32_in _ (by omega)
  have wm : IntKind.u32.wrap (m1 : Int) = (m1 : Int) := IntWalk.u32_in _ (by omega)
  have wa : IntKind.u32.wrap (a1 : Int) = (a1 : Int) := IntWalk.u32_in _ (by omega)
  have wc : IntKind.u32.wrap (c1 : Int) = (c1 : Int) := IntWalk.u32_in _ (by omega)
  have Hk := Lib.hid hk
  have Hd := Lib.hid hd
  have Hq := Lib.hid hq
  have Hm := Lib.hid hm
  have Ha := Lib.hid ha
  have Hc := Lib.hid hc
  have Hl := Lib.hid hl
  have HR := Lib.hid hr
  have hl2 : l2.length ≤ 100000 := by omega
  have z0 : Below w.heap.size w (w.alloc (.cells S11.zero.cells 31)) := (Below.refl _ w).alloc (Nat.le_refl _) _
  have r0 : Has (w.alloc (.cells S11.zero.cells 31)) w.heap.size 31 S11.zero.cells := Has.new _ _ _
  have C0 := Lib.hid (of_any v bs lo hi (w.alloc (.cells S11.zero.cells 31)) (hv.alloc hhi) (by simp; omega) (by omega))
  have HT := Lib.hid hT
  have hlt := hT.lt
  have fin0 : Hid (∀ g w1, InAt w1 (w.heap.size + 1) g bs 0 → Below (w.heap.size + 1) (w.alloc (.cells S11.zero.cells 31)) w1 → w.heap.size < g ∧ Mid w (w.heap.size + 1) g bs 0 w1) := by
    intro g w1 i1 b1
    exact ⟨by have := i1.lt; omega, i1, z0.trans (b1.mono (by omega)), r0.only (Only.of_below b1) (by omega)⟩
  clear z0 r0 hv hT hr hk nk hd nd hq nq hm nm ha na hc nc hl nl
  unfold S11.zero S11.cells at C0 fin0
  have C0 : Hid (Calls Tryd.prog 36 #[v] _ (fun e w1 => ∃ g, e = .returned (.pointer (some ⟨g, 0, none⟩)) ∧ w.heap.size < g ∧ Mid w (w.heap.size + 1) g bs 0 w1)) := Lib.hid (C0.out.mono (by
    rintro e w1 ⟨g, he, i1, b1⟩
    simp only [World.size_alloc] at i1 b1
    exact ⟨g, he, fin0.out g w1 i1 b1⟩))
  clear fin0
  go_enter Tryd.func95, Tryd.ntmps95
  go_wp2_with fail
  refine C0.out.mono ?_
  rintro e w1 ⟨g, rfl, hg, m1x⟩
  have M1 := Lib.hid m1x
  clear m1x C0
  go_wp2_with fail
  refine (take_any (w.heap.size + 1) g 2 bs 0 w1 M1.out.inn).mono ?_
  rintro e w2 ⟨rfl, i1, f1⟩
  rw [← Hk.out] at i1 ⊢
  have M2 := Lib.hid (M1.out.step hg i1 f1)
  clear i1 f1 M1
  go_wp2_with fail
  refine (take_any (w.heap.size + 1) g 4 k2 k3 w2 M2.out.inn).mono ?_
  rintro e w3 ⟨rfl, i1, f1⟩
  rw [← Hd.out] at i1 ⊢
  have M3 := Lib.hid (M2.out.step hg i1 f1)
  clear i1 f1 M2
  go_wp2_with fail
  refine (qidtake_any (w.heap.size + 1) g d2 d3 w3 M3.out.inn).mono ?_
  rintro e w4 ⟨rfl, i1, f1⟩
  rw [← Hq.out] at i1 ⊢
  unfold Q3.val
  have M4 := Lib.hid (M3.out.step hg i1 f1)
  clear i1 f1 M3
  go_wp2_with fail
  refine (take_any (w.heap.size + 1) g 4 q2 q3 w4 M4.out.inn).mono ?_
  rintro e w5 ⟨rfl, i1, f1⟩
  rw [← Hm.out] at i1 ⊢
  have M5 := Lib.hid (M4.out.step hg i1 f1)
  clear i1 f1 M4
  go_wp2_with fail
  refine (take_any (w.heap.size + 1) g 4 m2 m3 w5 M5.out.inn).mono ?_
  rintro e w6 ⟨rfl, i1, f1⟩
  rw [← Ha.out] at i1 ⊢
  have M6 := Lib.hid (M5.out.step hg i1 f1)
  clear i1 f1 M5
  go_wp2_with fail
  refine (take_any (w.heap.size + 1) g 4 a2 a3 w6 M6.out.inn).mono ?_
  rintro e w7 ⟨rfl, i1, f1⟩
  rw [← Hc.out] at i1 ⊢
  have M7 := Lib.hid (M6.out.step hg i1 f1)
  clear i1 f1 M6
  go_wp2_with fail
  refine (take_any (w.heap.size + 1) g 8 c2 c3 w7 M7.out.inn).mono ?_
  rintro e w8 ⟨rfl, i1, f1⟩
  rw [← Hl.out] at i1 ⊢
  have M8 := Lib.hid (M7.out.step hg i1 f1)
  clear i1 f1 M7
  clear Hk Hd Hq Hm Ha Hc Hl
  have CT := Lib.hid (taketext_any (w.heap.size + 1) g l2 l3 w8 M8.out.inn (M8.out.tabs HT.out) (by omega) (by omega) (by omega))
  cases hnt : textSt l2 l3 with
  | none =>
    rw [hnt] at CT
    have hR : recOf bs = none := by
      rw [HR.out, hnt]
      rfl
    rw [hR]
    go_wp2_with fail
    refine CT.out.mono ?_
    rintro e w9 ⟨rfl, f1⟩
    have R : Hid (RecStep w none (.panicked [{ v := .iface 36 (.int .i64 2), recovered := false }]) w9) := ⟨rfl, M8.out.low.trans (f1.below M8.out.low.size (fun i hi h => by omega))⟩
    clear CT HR M8 f1
    go_wp2
    exact ⟨rfl, R.out⟩
  | some p =>
  obtain ⟨nt, nr⟩ := p
  have hlnr := textSt_len hnt
  rw [hnt] at CT
  go_wp2_with fail
  refine CT.out.mono ?_
  rintro e w9 ⟨rfl, i1, f1⟩
  have M9 := Lib.hid (M8.out.step hg i1 f1)
  clear i1 f1 M8 CT
  have CT := Lib.hid (taketext_any (w.heap.size + 1) g nr 0 w9 M9.out.inn (M9.out.tabs HT.out) (by omega) (by omega) (by omega))
  cases hut : textSt nr 0 with
  | none =>
    rw [hut] at CT
    have hR : recOf bs = none := by
      rw [HR.out, hnt, Option.bind_some, hut]
      rfl
    rw [hR]
    go_wp2_with fail
    refine CT.out.mono ?_
    rintro e w10 ⟨rfl, f1⟩
    have R : Hid (RecStep w none (.panicked [{ v := .iface 36 (.int .i64 2), recovered := false }]) w10) := ⟨rfl, M9.out.low.trans (f1.below M9.out.low.size (fun i hi h => by omega))⟩
    clear CT HR M9 f1
    go_wp2
    exact ⟨rfl, R.out⟩
  | some p =>
  obtain ⟨ut, ur⟩ := p
  have hlur := textSt_len hut
  rw [hut] at CT
  go_wp2_with fail
  refine CT.out.mono ?_
  rintro e w10 ⟨rfl, i1, f1⟩
  have M10 := Lib.hid (M9.out.step hg i1 f1)
  clear i1 f1 M9 CT
  have CT := Lib.hid (taketext_any (w.heap.size + 1) g ur 0 w10 M10.out.inn (M10.out.tabs HT.out) (by omega) (by omega) (by omega))
  cases hgt : textSt ur 0 with
  | none =>
    rw [hgt] at CT
    have hR : recOf bs = none := by
      rw [HR.out, hnt, Option.bind_some, hut, Option.bind_some, hgt]
      rfl
    rw [hR]
    go_wp2_with fail
    refine CT.out.mono ?_
    rintro e w11 ⟨rfl, f1⟩
    have R : Hid (RecStep w none (.panicked [{ v := .iface 36 (.int .i64 2), recovered := false }]) w11) := ⟨rfl, M10.out.low.trans (f1.below M10.out.low.size (fun i hi h => by omega))⟩
    clear CT HR M10 f1
    go_wp2
    exact ⟨rfl, R.out⟩
  | some p =>
  obtain ⟨gt, gr⟩ := p
  have hlgr := textSt_len hgt
  rw [hgt] at CT
  go_wp2_with fail
  refine CT.out.mono ?_
  rintro e w11 ⟨rfl, i1, f1⟩
  have M11 := Lib.hid (M10.out.step hg i1 f1)
  clear i1 f1 M10 CT
  have CT := Lib.hid (taketext_any (w.heap.size + 1) g gr 0 w11 M11.out.inn (M11.out.tabs HT.out) (by omega) (by omega) (by omega))
  cases hxt : textSt gr 0 with
  | none =>
    rw [hxt] at CT
    have hR : recOf bs = none := by
      rw [HR.out, hnt, Option.bind_some, hut, Option.bind_some, hgt, Option.bind_some, hxt]
      rfl
    rw [hR]
    go_wp2_with fail
    refine CT.out.mono ?_
    rintro e w12 ⟨rfl, f1⟩
    have R : Hid (RecStep w none (.panicked [{ v := .iface 36 (.int .i64 2), recovered := false }]) w12) := ⟨rfl, M11.out.low.trans (f1.below M11.out.low.size (fun i hi h => by omega))⟩
    clear CT HR M11 f1
    go_wp2
    exact ⟨rfl, R.out⟩
  | some p =>
  obtain ⟨xt, xr⟩ := p
  have hlxr := textSt_len hxt
  rw [hxt] at CT
  go_wp2_with fail
  refine CT.out.mono ?_
  rintro e w12 ⟨rfl, i1, f1⟩
  have M12 := Lib.hid (M11.out.step hg i1 f1)
  clear i1 f1 M11 CT
  obtain ⟨S, hS⟩ : ∃ S : S11, S = ⟨k1, d1, q1, m1, a1, c1, l1, nt, ut, gt, xt⟩ := ⟨_, rfl⟩
  obtain ⟨W, hW⟩ : ∃ W, W = w12.alloc (.cells S.cells 31) := ⟨_, rfl⟩
  have hr2 : recOf bs = if xr = [] then some S else none := by
    rw [HR.out, hnt, Option.bind_some, hut, Option.bind_some, hgt, Option.bind_some, hxt, Option.bind_some, hS]
  have M13 : Hid (Mid w (w.heap.size + 1) g xr 0 W) := by
    rw [hW]
    exact ⟨M12.out.inn.only ((Only.refl (fun _ => False) w12).alloc _) (fun _ _ _ h => h), M12.out.low.alloc M12.out.low.size _, M12.out.res.alloc _⟩
  have N13 : Has W w12.heap.size 31 S.cells := by rw [hW]; exact Has.new _ _ _
  have e : w12.alloc (.cells S.cells 31) = W := hW.symm
  obtain ⟨⟨d0, d1', d2', d3', d4⟩, ⟨d5, d6, d7, d8⟩, ⟨d9, d10, d11, d12⟩⟩ := N13.cells13
  rw [hS] at e d0 d1' d2' d3' d4 d5 d6 d7 d8 d9 d10 d11 d12
  unfold S11.cells at e
  simp only at e d0 d1' d2' d3' d4 d5 d6 d7 d8 d9 d10 d11 d12
  have HR2 := Lib.hid hr2
  have E := Lib.hid e
  have hS := Lib.hid hS
  clear HR hnt hut hgt hxt M12 hW N13 e hr2
  go_wp2_with fail
  rw [E.out]
  clear E
  refine (left_any (w.heap.size + 1) g xr 0 W M13.out.inn).mono ?_
  rintro e w' ⟨rfl, rfl⟩
  by_cases hx : xr = []
  · subst hx
    obtain ⟨⟨x0, x1, x2, x3, x4⟩, ⟨x5, x6, x7, x8⟩, ⟨x9, x10, x11, x12⟩⟩ := M13.out.res.cells13
    obtain ⟨⟨y0, y1, y2, y3, y4⟩, ⟨y5, y6, y7, y8⟩, ⟨y9, y10, y11, y12⟩⟩ := M13.out.res.frozen13
    have HR3 : Hid (recOf bs = some S) := Lib.hid (by rw [HR2.out, if_pos rfl])
    clear HR2
    rw [List.length_nil]
    go_wp2_with fail
    refine (must_yes 2 W).mono ?_
    rintro e w' ⟨rfl, rfl⟩
    go_wp2_with fail
    refine bodyPost_ret (results_cell_row rfl _ _ w.heap.size 31 _ (0, 0) _ rfl (has_set13 M13.out.res ⟨k1, d1, q1, m1, a1, c1, l1, nt, ut, gt, xt⟩) Tryd.underlying31 rfl Tryd.statSize13) rfl ?_
    rw [HR3.out]
    refine ⟨by rw [hS.out]; rfl, ?_⟩
    exact M13.out.low.trans (((Only.refl (fun i => i = w.heap.size) W).set13 (fun _ => rfl) ⟨k1, d1, q1, m1, a1, c1, l1, nt, ut, gt, xt⟩).below M13.out.low.size (fun i hi h => by omega))
  · have hd : ((xr.length : Int) == 0) = false := by
      have : xr.length ≠ 0 := fun h => hx (List.eq_nil_of_length_eq_zero h)
      simpa using this
    have R : Hid (RecStep w (recOf bs) (.panicked [{ v := .iface 36 (.int .i64 2), recovered := false }]) W) := by
      rw [HR2.out, if_neg hx]
      exact ⟨rfl, M13.out.low⟩
    clear M13 HR2 d0 d1' d2' d3' d4 d5 d6 d7 d8 d9 d10 d11 d12
    go_wp2_with fail
    refine (must_no 2 W).mono ?_
    rintro e w' ⟨rfl, rfl⟩
    go_wp2
    exact ⟨rfl, R.out⟩
end Go.Proofs.YtepiifbleoimkaaDoor
