/-
  Package disk: Write, Sync.
-/
import Derived.Test.YtnhojcldeloigaaGreatDiskJ
import Derived.Lib.AppendStr
namespace Go.Proofs.YtnhojcldeloigaaGreat
open Go.RowKit Go.Lib
set_option maxRecDepth 100000

/-- The bytes of a text, as a new row. -/
theorem str_bytes (l : List UInt8) (w : World) (hl : l.length ≤ maxLen) :
    ∃ A c w', (convert 9 33 (.string (strOf l))).run Tryz.prog w = .ok (.slice A l.length c) w' ∧ SlIs w' w.heap.size w'.heap.size (.slice A l.length c) l ∧ Below w.heap.size w w' := by
  have hr := run_bytes_of_string (P := Tryz.prog) w 9 33 5 (strOf l) Tryz.underlying9 Tryz.underlying33 Tryz.underlying5
  have hz : (strOf l).size = l.length := (by simp [strOf, ByteArray.size])
  rw [hz] at hr
  have hge := grownCap_ge w l.length 0 5
  have hcm := grownCap_le_maxLen w l.length 0 5 hl
  generalize grownCap w l.length 0 5 = cap at hr hge hcm
  refine ⟨_, _, _, hr, ⟨_, _, rfl, hge, hcm, fun _ => ⟨_, rfl, Nat.le_refl _, ?_, ?_⟩⟩, ?_⟩
  · show w.heap.size < (w.drew.alloc _).heap.size
    rw [World.size_alloc]
    exact Nat.lt_succ_self _
  · intro j u hu
    have hj : j < l.length := by
      have := (List.getElem?_eq_some_iff.1 hu).1
      rwa [b8s_length] at this
    rw [b8s_get hj] at hu
    injection hu with hu
    subst hu
    have hb := bytesRow_at (strOf l) cap j (by show j < l.toArray.size; simpa using hj)
    have hc := World.cell?_alloc_mark w.drew (bytesRow (strOf l) cap) 5 ((bytesRow (strOf l) cap).size, (bytesRow (strOf l) cap).size + 1) j
    have e : ((⟨w.heap.size, 0, none⟩ : Addr).add j) = ⟨w.heap.size, j, none⟩ := by by_cases hj0 : j = 0 <;> simp [Addr.add, hj0]
    rw [e]
    refine hc.trans (hb.trans ?_)
    simp [strOf, b8]
  · exact (Below.refl w.heap.size w).drew.alloc (Nat.le_refl _) _

/-- What a function that is caught ends in. -/
def endsIn (r : Int) : Ending := if r = 0 then .returned (.tuple #[]) else .panicked [{ v := .iface 26 (.int .i64 r), recovered := false }]
theorem endsIn_no {r : Int} (h : r ≠ 0) : endsIn r = .panicked [{ v := .iface 26 (.int .i64 r), recovered := false }] := if_neg h
theorem caught_any (q : Nat) (lb : Array Value) (eg : ∀ args w, (callFunc q args).run Tryz.prog w = .ok (.enter q args) w) (W : World) (r : Int) (R : World → Prop)
    (hC : Calls Tryz.prog q lb (W.alloc errBox) fun e w' => e = endsIn r ∧ Has w' W.heap.size 26 #[.int .i64 0] ∧ R w') :
    Calls Tryz.prog 32 #[.func (.func q) #[] lb] W fun e w' => e = .returned (.int .i64 r) ∧ ∃ w1, R w1 ∧ Only (fun i => i = W.heap.size) w1 w' := by
  by_cases h : r = 0
  · subst h
    exact (caught_ok q lb eg W R hC).mono fun e w' hh => ⟨hh.1, w', hh.2, Only.refl _ _⟩
  · rw [endsIn_no h] at hC
    refine (caught_panic q lb eg W r R hC).mono fun e w' hh => ?_
    obtain ⟨h1, w1, _, h3, rfl⟩ := hh
    exact ⟨h1, w1, h3, (Only.refl (fun i => i = W.heap.size) _).setCell (p := ⟨W.heap.size, 0, none⟩) (fun _ => rfl) _⟩
section
variable {w w1 w2 w3 : World} {F E : Nat → Prop} {g : Nat} {s : D}
theorem DkStep.caught2 (k : Only (fun _ => False) w w1) (h : DkStep w1 F E g s w2) (hF : ∀ i, F i → i < w.heap.size) (hE : ∀ i, E i → i < w.heap.size) {q : Nat} (hq : w.heap.size ≤ q ∧ q < w1.heap.size) (k2 : Only (fun i => i = q) w2 w3) : DkStep w F E g s w3 := by
  obtain ⟨F2, E2, d, f, e, o⟩ := h
  have hs := k.size
  refine ⟨F2, E2, d.only k2 (fun i _ hi => ⟨fun h => ?_, fun h => ?_⟩), fun i hi => ?_, fun i hi => ?_, ((k.mono (T := F) (fun _ _ h => h.elim)).trans o (fun _ _ h => h)).trans k2 (fun i hi e => by omega)⟩
  · rcases f i h with h | h
    · have := hF i h
      omega
    · omega
  · rcases e i h with h | h
    · have := hE i h
      omega
    · omega
  · rcases f i hi with h | h
    · exact .inl h
    · right; omega
  · rcases e i hi with h | h
    · exact .inl h
    · right; omega
end

theorem Tryz.enterWrite1 : ∀ args w, (callFunc 100 args).run Tryz.prog w = .ok (.enter 100 args) w := enters_of Tryz.func100 (by kernel_rfl) rfl
theorem Tryz.enterSync1 : ∀ args w, (callFunc 94 args).run Tryz.prog w = .ok (.enter 94 args) w := enters_of Tryz.func94 (by kernel_rfl) rfl

/-- So small is all that is counted. -/
structure D.Small (s : D) : Prop where
  pend : s.pend.length ≤ 1000000
  armed : s.armed ≤ 9223372036854775807
  writes : s.writes ≤ 1000000

theorem write1_any (F E : Nat → Prop) (g p0 p1 p2 lo hi : Nat) (i : Int) (x : Value) (b : List UInt8) (s : D) (w : World) (h : Dk w F E g s) (hb : WBox w F g p0 p1 p2 lo hi i x b) (hs : s.Small) :
    Calls Tryz.prog 100 #[.pointer (some ⟨p0, 0, none⟩), .pointer (some ⟨p1, 0, none⟩), .pointer (some ⟨p2, 0, none⟩)] w fun e w' => e = endsIn (s.write i b).1 ∧ DkStep w F E g (s.write i b).2 w' := by
  unfold D.write
  cases ho : s.off with
  | true =>
    rw [if_pos rfl]
    exact write1_off F E g p0 p1 p2 lo hi i x b s w h hb ho
  | false =>
    rw [if_neg (by decide)]
    by_cases hi' : 0 ≤ i ∧ i < (s.kept.length : Int)
    · by_cases hl : b.length = s.size
      · rw [if_neg (fun h => h ⟨hi'.1, hi'.2, hl⟩)]
        obtain ⟨k, rfl⟩ : ∃ k : Nat, i = (k : Int) := ⟨i.toNat, by omega⟩
        by_cases h1 : s.armed = 1
        · rw [if_pos h1]
          exact write1_cut F E g p0 p1 p2 lo hi k x b s w h hb ho (by omega) hl hs.pend hs.armed h1
        · rw [if_neg h1]
          exact write1_put F E g p0 p1 p2 lo hi k x b s w h hb ho (by omega) hl hs.pend hs.armed h1 hs.writes
      · rw [if_pos (fun h => hl h.2.2)]
        exact write1_long F E g p0 p1 p2 lo hi i x b s w h hb ho hi' hl
    · rw [if_pos (fun h => hi' ⟨h.1, h.2.1⟩)]
      exact write1_none F E g p0 p1 p2 lo hi i x b s w h hb ho hi'

set_option maxHeartbeats 1000000 in
theorem write_any (F E : Nat → Prop) (g lo hi : Nat) (i : Int) (x : Value) (b : List UInt8) (s : D) (w : World) (h : Dk w F E g s) (hx : SlIs w lo hi x b) (hhi : hi ≤ w.heap.size) (hfar : ∀ i, lo ≤ i → i < hi → ¬ F i) (hs : s.Small) :
    Calls Tryz.prog 88 #[.pointer (some ⟨g, 0, none⟩), .int .i64 i, x] w fun e w' => e = .returned (.int .i64 (s.write i b).1) ∧ DkStep w F E g (s.write i b).2 w' := by
  obtain ⟨lg, fg, lF, lE, ap, ok⟩ := h.lt
  obtain ⟨A, c, rfl, _⟩ := id hx
  obtain ⟨W, hW⟩ : ∃ W, W = ((w.alloc (.cells #[.pointer (some ⟨g, 0, none⟩)] 25)).alloc (.cells #[.int .i64 i] 3)).alloc (.cells #[.slice A b.length c] 33) := ⟨_, rfl⟩
  have sW : W.heap.size = w.heap.size + 3 := by rw [hW]; simp
  have kE : Only (fun _ => False) w (W.alloc errBox) := by rw [hW]; exact ((((Only.refl _ w).alloc _).alloc _).alloc _).alloc _
  have sE : (W.alloc errBox).heap.size = w.heap.size + 4 := by simp [sW]
  have hb : WBox (W.alloc errBox) F g w.heap.size (w.heap.size + 1) (w.heap.size + 2) lo hi i (.slice A b.length c) b := by
    refine ⟨?_, ?_, ?_, fun h => ?_, fun h => ?_, fun h => ?_, hx.only kE hhi (fun _ _ _ h => h), by omega, hfar⟩
    · rw [hW]
      exact (((Has.new w _ _).alloc _).alloc _).alloc _
    · rw [hW]
      have := (((Has.new (w.alloc (.cells #[.pointer (some ⟨g, 0, none⟩)] 25)) 3 #[.int .i64 i]).alloc (.cells #[.slice A b.length c] 33)).alloc errBox)
      simpa using this
    · rw [hW]
      have := ((Has.new ((w.alloc (.cells #[.pointer (some ⟨g, 0, none⟩)] 25)).alloc (.cells #[.int .i64 i] 3)) 33 #[.slice A b.length c]).alloc errBox)
      simpa using this
    · have := lF _ h
      omega
    · have := lF _ h
      omega
    · have := lF _ h
      omega
  have C1 := write1_any F E g _ _ _ lo hi i _ b s _ (h.only kE (fun _ _ h => h.elim)) hb hs
  have C := Lib.hid (caught_any 100 _ Tryz.enterWrite1 W (s.write i b).1 (DkStep (W.alloc errBox) F E g (s.write i b).2) (C1.mono fun e w' hh => ⟨hh.1, by
    obtain ⟨_, _, _, _, _, o⟩ := hh.2
    exact (Has.new W 26 #[.int .i64 0]).only o (fun h => by
      have := lF _ h
      omega), hh.2⟩))
  have R : Hid (∀ w1 w', DkStep (W.alloc errBox) F E g (s.write i b).2 w1 → Only (fun i => i = W.heap.size) w1 w' → DkStep w F E g (s.write i b).2 w') := fun w1 w' hd k2 => hd.caught2 kE lF lE ⟨by omega, by omega⟩ k2
  generalize s.write i b = r at C R
  rw [hW] at C R
  clear hb C1 kE sE sW hW hx h
  go_enter Tryz.func88, Tryz.ntmps88
  go_wp2_with fail
  refine C.out.mono ?_
  rintro e w' ⟨rfl, w1, hd, k2⟩
  have R2 := Lib.hid (R.out w1 w' hd k2)
  clear C R hd k2
  go_wp2
  go_ret
  exact ⟨rfl, R2.out⟩

theorem sync1_any (F E : Nat → Prop) (g p : Nat) (s : D) (w : World) (h : Dk w F E g s) (hp : Has w p 25 #[.pointer (some ⟨g, 0, none⟩)]) (hs : s.Small) :
    Calls Tryz.prog 94 #[.pointer (some ⟨p, 0, none⟩)] w fun e w' => e = endsIn s.sync.1 ∧ DkStep w F E g s.sync.2 w' := by
  unfold D.sync
  cases ho : s.off with
  | true =>
    rw [if_pos rfl]
    have C := Lib.hid (muston_no F E g s w h ho)
    have R := Lib.hid h.same
    have c0 := hp.cell 0
    simp at c0
    clear h hp ho
    go_enter Tryz.func94, Tryz.ntmps94
    go_wp2_with fail
    refine C.out.mono ?_
    rintro e w' ⟨rfl, rfl⟩
    go_wp2
    exact ⟨rfl, rfl, R.out⟩
  | false =>
    rw [if_neg (by decide)]
    have C := sync1_on F E g p s w h ho hp hs.pend
    rw [ho] at C
    exact C

set_option maxHeartbeats 1000000 in
theorem sync_any (F E : Nat → Prop) (g : Nat) (s : D) (w : World) (h : Dk w F E g s) (hs : s.Small) :
    Calls Tryz.prog 77 #[.pointer (some ⟨g, 0, none⟩)] w fun e w' => e = .returned (.int .i64 s.sync.1) ∧ DkStep w F E g s.sync.2 w' := by
  obtain ⟨lg, fg, lF, lE, ap, ok⟩ := h.lt
  obtain ⟨W, hW⟩ : ∃ W, W = w.alloc (.cells #[.pointer (some ⟨g, 0, none⟩)] 25) := ⟨_, rfl⟩
  have sW : W.heap.size = w.heap.size + 1 := by rw [hW]; simp
  have kE : Only (fun _ => False) w (W.alloc errBox) := by rw [hW]; exact ((Only.refl _ w).alloc _).alloc _
  have sE : (W.alloc errBox).heap.size = w.heap.size + 2 := by simp [sW]
  have hb : Has (W.alloc errBox) w.heap.size 25 #[.pointer (some ⟨g, 0, none⟩)] := by
    rw [hW]
    exact (Has.new w _ _).alloc _
  have C1 := sync1_any F E g _ s _ (h.only kE (fun _ _ h => h.elim)) hb hs
  have C := Lib.hid (caught_any 94 _ Tryz.enterSync1 W s.sync.1 (DkStep (W.alloc errBox) F E g s.sync.2) (C1.mono fun e w' hh => ⟨hh.1, by
    obtain ⟨_, _, _, _, _, o⟩ := hh.2
    exact (Has.new W 26 #[.int .i64 0]).only o (fun h => by
      have := lF _ h
      omega), hh.2⟩))
  have R : Hid (∀ w1 w', DkStep (W.alloc errBox) F E g s.sync.2 w1 → Only (fun i => i = W.heap.size) w1 w' → DkStep w F E g s.sync.2 w') := fun w1 w' hd k2 => hd.caught2 kE lF lE ⟨by omega, by omega⟩ k2
  generalize s.sync = r at C R
  rw [hW] at C R
  clear hb C1 kE sE sW hW h
  go_enter Tryz.func77, Tryz.ntmps77
  go_wp2_with fail
  refine C.out.mono ?_
  rintro e w' ⟨rfl, w1, hd, k2⟩
  have R2 := Lib.hid (R.out w1 w' hd k2)
  clear C R hd k2
  go_wp2
  go_ret
  exact ⟨rfl, R2.out⟩
end Go.Proofs.YtnhojcldeloigaaGreat
