/-
  Package msg: Decode of whatever bytes.
-/
import Derived.Test.YtepiifbleoimkaaDoorMsgL
namespace Go.Proofs.YtepiifbleoimkaaDoor
open Go.RowKit
set_option maxRecDepth 100000

/-- What is told of a message that was read: it lies in cs, of Type t and Tag tag, with these fields. -/
def MsgIs (w : World) (lo hi : Nat) (cs : Array Value) (t tag : Nat) (fs : List F) : Prop :=
  ∃ m l, MgAt w lo hi cs m ∧ m 0 = .num 1 t ∧ m 1 = .num 2 tag ∧ namedOf t = some l ∧ fieldsOf m l = fs ∧ ∀ p ∈ places, (m p.2).Ok ∧ (m p.2).Few
theorem MsgIs.keep {w w' : World} {lo hi : Nat} {cs : Array Value} {t tag : Nat} {fs : List F} (h : MsgIs w lo hi cs t tag fs) (hk : ∀ p : Addr, lo ≤ p.block → p.block < hi → w'.cell? p = w.cell? p) : MsgIs w' lo hi cs t tag fs := by
  obtain ⟨m, l, a, b⟩ := h
  exact ⟨m, l, a.keep hk, b⟩
theorem MsgIs.wide {w : World} {lo hi lo' hi' : Nat} {cs : Array Value} {t tag : Nat} {fs : List F} (h : MsgIs w lo hi cs t tag fs) (h1 : lo' ≤ lo) (h2 : hi ≤ hi') : MsgIs w lo' hi' cs t tag fs := by
  obtain ⟨m, l, a, b⟩ := h
  exact ⟨m, l, a.wide h1 h2, b⟩
theorem MsgIs.size {w : World} {lo hi : Nat} {cs : Array Value} {t tag : Nat} {fs : List F} (h : MsgIs w lo hi cs t tag fs) : cs.size = 36 ∧ cs.all (fun x => x.oneCell') = true := by
  obtain ⟨m, l, a, b⟩ := h
  exact ⟨a.size, a.one⟩
def Dec51Step (w : World) (sb : Nat) (r : Option (Nat × Nat × List F)) (e : Ending) (w' : World) : Prop :=
  match r with
  | none => e = .panicked [{ v := .iface 36 (.int .i64 2), recovered := false }] ∧ Below w.heap.size w w'
  | some (t, tag, fs) => ∃ cs, e = .returned (.tuple #[]) ∧ Has w' sb 33 cs ∧ MsgIs w' w.heap.size w'.heap.size cs t tag fs ∧ Only (fun i => i = sb) w w'

set_option maxHeartbeats 1000000 in
theorem decode51_any (bb sb lo hi : Nat) (v : Value) (bs : List UInt8) (w : World) (hbb : Has w bb 29 #[v]) (hv : SlIs w lo hi v bs) (hhi : hi ≤ w.heap.size) (hs : Has w sb 33 (zeroCells 0 0)) (hT : Tabs w) (hb : bs.length ≤ 100000) :
    Calls Tryd.prog 34 #[.pointer (some ⟨bb, 0, none⟩), .pointer (some ⟨sb, 0, none⟩)] w (Dec51Step w sb (decM bs)) := by
  have c0 := hbb.cell 0
  simp at c0
  have C := Lib.hid (of_any v bs lo hi w hv hhi (by omega))
  have hTl := hT.lt
  have hsl := hs.lt
  obtain ⟨A, c, rfl, _⟩ := id hv
  have HS := Lib.hid hs
  have HT := Lib.hid hT
  clear hbb hv hs hT
  go_enter Tryd.func34, Tryd.ntmps34
  go_wp2_with fail
  refine C.out.mono ?_
  rintro e w1 ⟨g, rfl, i1, b1⟩
  have hg1 := i1.lt
  have C2 := Lib.hid (whole_any w.heap.size g bs w1 i1 (HT.out.below b1) (by omega) hb)
  have B1 := Lib.hid b1
  clear C i1 b1 c0
  go_wp2_with fail
  refine C2.out.mono ?_
  intro e w2 st
  cases hd : decM bs with
  | none =>
    rw [hd] at st
    obtain ⟨rfl, k2⟩ := st
    have R : Hid (Dec51Step w sb none (.panicked [{ v := .iface 36 (.int .i64 2), recovered := false }]) w2) := ⟨rfl, B1.out.trans (k2.below B1.out.size (fun i hi h => by omega))⟩
    clear C2 k2 hd HS HT B1
    go_wp2
    exact ⟨rfl, R.out⟩
  | some p =>
    obtain ⟨t, tag, fs⟩ := p
    rw [hd] at st
    obtain ⟨cs, m, l, rfl, hm, h0, h1, hl, hf, hok, k2⟩ := st
    have B2 : Below w.heap.size w w2 := B1.out.trans (k2.below B1.out.size (fun i hi h => by omega))
    have hs1 := B1.out.size
    have hs2 := B2.size
    have s2 : Has w2 sb 33 (zeroCells 0 0) := HS.out.only (Below.onlyNew B2) (fun h => h)
    have S2 := Lib.hid s2
    have HO := Lib.hid hm.one
    have HZ := Lib.hid hm.size
    have R : Hid (Dec51Step w sb (decM bs) (.returned (.tuple #[])) (w2.setRow sb cs)) := by
      rw [hd]
      have ks : Only (fun i => i = sb) w2 (w2.setRow sb cs) := (Only.refl (fun i => i = sb) w2).setRow (fun _ => rfl) cs
      have hsr := ks.size
      exact ⟨cs, rfl, s2.setRow cs, ⟨m, l, (hm.keep (ks.keeps (Nat.le_refl _) (fun i hi _ h => by omega))).wide (by omega) hsr, h0, h1, hl, hf, hok⟩, ((Below.onlyNew B2).mono (fun _ _ h => h.elim)).trans ks (fun _ _ h => h)⟩
    clear C2 k2 hd HS HT B1 B2 hm h0 h1 hl hf hok s2
    go_wp2_with (first
      | (refine store_struct Tryd.msgSize sb cs (.tmp 1) (.tmp 4) rfl rfl rfl rfl S2.out rfl HZ.out HO.out ?_)
      | fail)
    go_end0
    exact R.out

theorem Tryd.enterDecode5 : ∀ args w, (callFunc 34 args).run Tryd.prog w = .ok (.enter 34 args) w := enters_of Tryd.func34 (by kernel_rfl) rfl
/-- A struct and one more result. -/
theorem results_cell_row1 {P : Program} {fn : Func} {p u1 : Tmp} {ty : TypeId} (h : fn.results = #[.cell p ty, .tmp u1]) (tmps : Array Value) (w : World) (g : Nat) (t : TypeId) (cs : Array Value) (fr : Nat × Nat) (d : TypeDesc)
    (hp : tmps.getD p undef = .pointer (some ⟨g, 0, none⟩)) (hg : w.heap[g]? = some (.cells cs t fr))
    (hu : P.underlying ty = some d) (hd : (match d with | .struct _ | .array _ _ => true | _ => false) = true) (hi : (P.info? ty).map (·.size) = some cs.size) :
    (results fn tmps).run P w = .ok (.tuple #[.agg cs, tmps.getD u1 undef]) w := by
  have hp' : tmps[p]?.getD undef = .pointer (some ⟨g, 0, none⟩) := by simpa using hp
  simp [results, h, hp', asAddr, run_loadVar_row w g t ty cs fr d hg hu hd hi, Result.andThen]

/-- What Decode answers. -/
def Dec5Step (w : World) (r : Option (Nat × Nat × List F)) (e : Ending) (w' : World) : Prop :=
  match r with
  | none => e = .returned (.tuple #[.agg (zeroCells 0 0), .int .i64 2]) ∧ Below w.heap.size w w'
  | some (t, tag, fs) => ∃ cs, e = .returned (.tuple #[.agg cs, .int .i64 0]) ∧ MsgIs w' w.heap.size w'.heap.size cs t tag fs ∧ Below w.heap.size w w'

set_option maxHeartbeats 2000000 in
theorem decode5_any (v : Value) (bs : List UInt8) (lo hi : Nat) (w : World) (hv : SlIs w lo hi v bs) (hhi : hi ≤ w.heap.size) (hb : bs.length ≤ 100000) (hT : Tabs w) :
    Calls Tryd.prog 13 #[v] w (Dec5Step w (decM bs)) := by
  obtain ⟨W, hW⟩ : ∃ W, W = ((w.alloc (.cells #[v] 29)).alloc (.cells (zeroCells 0 0) 33)).alloc (.cells (zeroCells 0 0) 33) := ⟨_, rfl⟩
  have k0 : Only (fun _ => False) w W := by rw [hW]; exact (((Only.refl _ w).alloc _).alloc _).alloc _
  have hB : Has W w.heap.size 29 #[v] := by rw [hW]; exact ((Has.new w _ _).alloc _).alloc _
  have hR : Has W (w.heap.size + 1) 33 (zeroCells 0 0) := by
    rw [hW]
    have := (Has.new (w.alloc (.cells #[v] 29)) 33 (zeroCells 0 0)).alloc (.cells (zeroCells 0 0) 33)
    simpa using this
  have hM : Has W (w.heap.size + 2) 33 (zeroCells 0 0) := by
    rw [hW]
    have := Has.new ((w.alloc (.cells #[v] 29)).alloc (.cells (zeroCells 0 0) 33)) 33 (zeroCells 0 0)
    simpa using this
  have sW : W.heap.size = w.heap.size + 3 := by rw [hW]; simp
  have ke : Only (fun _ => False) W (W.alloc errBox) := (Only.refl _ W).alloc _
  have se : (W.alloc errBox).heap.size = w.heap.size + 4 := by simp [sW]
  have C1 := decode51_any w.heap.size (w.heap.size + 2) lo hi v bs (W.alloc errBox) (hB.alloc _) ((hv.only k0 hhi (fun _ _ _ h => h)).only ke (by omega) (fun _ _ _ h => h)) (by omega) (hM.alloc _) ((hT.only k0 (fun h => h) (fun h => h)).only ke (fun h => h) (fun h => h)) hb
  have hE : Has (W.alloc errBox) W.heap.size 36 #[.int .i64 0] := Has.new _ _ _
  have kW : Only (fun _ => False) w (W.alloc errBox) := k0.alloc _
  obtain ⟨A, c, rfl, _⟩ := id hv
  cases hd : decM bs with
  | none =>
    rw [hd] at C1
    have C := Lib.hid (caught_panic 34 _ Tryd.enterDecode5 W 2 (fun w' => Below w.heap.size w w' ∧ Has w' (w.heap.size + 1) 33 (zeroCells 0 0) ∧ Has w' (w.heap.size + 2) 33 (zeroCells 0 0)) (C1.mono (by
      rintro e w' ⟨he, b⟩
      have k := Below.onlyNew b
      exact ⟨he, hE.only k (fun h => h), (kW.trans k (fun _ _ h => h)).below (Nat.le_refl _) (fun _ _ h => h), (hR.alloc _).only k (fun h => h), (hM.alloc _).only k (fun h => h)⟩)))
    clear C1 hE kW ke k0 hB hR hM hT hv hd
    go_enter Tryd.func13, Tryd.ntmps13
    go_wp2_with fail
    refine (show Calls Tryd.prog 23 _ (((w.alloc (.cells #[.slice A bs.length c] 29)).alloc (.cells (zeroCells 0 0) 33)).alloc (.cells (zeroCells 0 0) 33)) _ from by rw [← hW]; exact C.out).mono ?_
    rintro e w1 ⟨rfl, w2, h2, ⟨b1, r1, m1⟩, hw1⟩
    have b3 : Below w.heap.size w w1 := by rw [hw1]; exact b1.setCell (p := ⟨W.heap.size, 0, none⟩) (by simp; omega) (.int .i64 2)
    have R1 : Hid (Has w1 (w.heap.size + 1) 33 (zeroCells 0 0)) := by rw [hw1]; exact r1.far (by simp; omega) _
    have M1 : Hid (Has w1 (w.heap.size + 2) 33 (zeroCells 0 0)) := by rw [hw1]; exact m1.far (by simp; omega) _
    have B3 := Lib.hid b3
    clear C h2 b1 r1 m1 hw1 b3 hW sW se
    go_wp2_with (first
      | (refine load_struct Tryd.underlying33 rfl Tryd.msgSize (w.heap.size + 2) (zeroCells 0 0) (.tmp 4) rfl rfl rfl M1.out rfl ?_)
      | (refine store_struct Tryd.msgSize (w.heap.size + 1) (zeroCells 0 0) (.tmp 2) (.tmp 8) rfl rfl rfl rfl R1.out rfl rfl (zero_one 0 0) ?_)
      | fail)
    refine bodyPost_ret (results_cell_row1 rfl _ _ (w.heap.size + 1) 33 (zeroCells 0 0) (0, 0) _ rfl (R1.out.setRow _) Tryd.underlying33 rfl Tryd.msgSize) rfl ?_
    refine ⟨rfl, B3.out.trans (((Only.refl (fun i => i = w.heap.size + 1) w1).setRow (fun _ => rfl) _).below B3.out.size (fun i hi h => by omega))⟩
  | some p =>
    obtain ⟨t, tag, fs⟩ := p
    rw [hd] at C1
    have C := Lib.hid (caught_ok 34 _ Tryd.enterDecode5 W (fun w' => Below w.heap.size w w' ∧ Has w' (w.heap.size + 1) 33 (zeroCells 0 0) ∧ ∃ cs, Has w' (w.heap.size + 2) 33 cs ∧ MsgIs w' (w.heap.size + 4) w'.heap.size cs t tag fs) (C1.mono (by
      rintro e w' ⟨cs, he, hm, hi, k⟩
      rw [se] at hi
      exact ⟨he, hE.only k (by omega), ((kW.mono (fun _ _ h => h.elim)).trans k (fun _ _ h => h)).below (Nat.le_refl _) (fun i hi h => by omega), (hR.alloc _).only k (by omega), cs, hm, hi⟩)))
    clear C1 hE kW ke k0 hB hR hM hT hv hd
    go_enter Tryd.func13, Tryd.ntmps13
    go_wp2_with fail
    refine (show Calls Tryd.prog 23 _ (((w.alloc (.cells #[.slice A bs.length c] 29)).alloc (.cells (zeroCells 0 0) 33)).alloc (.cells (zeroCells 0 0) 33)) _ from by rw [← hW]; exact C.out).mono ?_
    rintro e w1 ⟨rfl, b1, r1, cs, m1, hi1⟩
    have R1 := Lib.hid r1
    have M1 := Lib.hid m1
    have B3 := Lib.hid b1
    have HZ := Lib.hid hi1.size.1
    have HO := Lib.hid hi1.size.2
    have HI := Lib.hid hi1
    clear C b1 r1 m1 hi1 hW sW se
    go_wp2_with (first
      | (refine load_struct Tryd.underlying33 rfl Tryd.msgSize (w.heap.size + 2) cs (.tmp 4) rfl rfl rfl M1.out HZ.out ?_)
      | (refine store_struct Tryd.msgSize (w.heap.size + 1) cs (.tmp 2) (.tmp 8) rfl rfl rfl rfl R1.out rfl HZ.out HO.out ?_)
      | fail)
    refine bodyPost_ret (results_cell_row1 rfl _ _ (w.heap.size + 1) 33 cs (0, 0) _ rfl (R1.out.setRow _) Tryd.underlying33 rfl (by rw [HZ.out]; exact Tryd.msgSize)) rfl ?_
    have ks : Only (fun i => i = w.heap.size + 1) w1 (w1.setRow (w.heap.size + 1) cs) := (Only.refl (fun i => i = w.heap.size + 1) w1).setRow (fun _ => rfl) cs
    exact ⟨cs, rfl, (HI.out.keep (ks.keeps (Nat.le_refl _) (fun i hi _ h => by omega))).wide (by omega) ks.size, B3.out.trans (ks.below B3.out.size (fun i hi h => by omega))⟩
end Go.Proofs.YtepiifbleoimkaaDoor
