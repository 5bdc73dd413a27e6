/-
  Package frame: Feed: the bodies that are whole now, what the stream holds then, whether it is dead.
-/
import Derived.Test.YtfldgoggaadohaaFrameC
namespace Go.Proofs.Ytfldgoggaadohaa
open Go.RowKit
set_option maxRecDepth 100000

theorem Try.enterFeed1 : ∀ args w, (callFunc 19 args).run Try.prog w = .ok (.enter 19 args) w := enters_of Try.func19 (by kernel_rfl) rfl

/-- What Feed leaves. -/
def FeedStep (t : TypeId) (w : World) (B g : Nat) (hv : Value) (r : List (List UInt8) × List UInt8 × Bool) (e : Ending) (w' : World) : Prop :=
  ∃ v hv', e = .returned v ∧ LsAt w' (fun i => w.heap.size ≤ i ∧ hv'.ownBlock ≠ some i) v r.1 ∧ StAt t w' B g hv' r.2.1 r.2.2 ∧ Only (Foot g hv) w w' ∧ ∀ i, hv'.ownBlock = some i → hv.ownBlock = some i ∨ w.heap.size ≤ i

theorem cut_none {m : Int} {bs : List UInt8} (h1 : (cut m bs).1 = []) (h2 : (cut m bs).2.2 = false) : (cut m bs).2.1 = bs := by
  by_cases h4 : bs.length < 4
  · rw [cut_short h4]
  · by_cases hb : hd bs < 7 ∨ m < (hd bs : Int)
    · rw [cut_dead h4 hb] at h2
      cases h2
    · by_cases hl : bs.length < hd bs
      · rw [cut_wait h4 hb hl]
      · rw [cut_one h4 hb hl] at h1
        cases h1

/-- Behind the function that Feed hands to Caught. -/
structure FMid (w : World) (B g R L : Nat) (hv v0 : Value) (r : List (List UInt8) × List UInt8 × Bool) (bs : List UInt8) (H : Nat) (rv lv : Value) (w5 : World) : Prop where
  has : Has w5 g 47 #[hv, .bool false]
  low : Only (Foot g hv) w w5
  road : Has w5 R 22 #[rv]
  rd : r.2.2 = false → ElIs w5 (fun i => v0.ownBlock = some i) rv r.2.1
  same : r.2.2 = false → r.1 = [] → rv = v0
  list : Has w5 L 31 #[lv]
  ls : LsAt w5 (fun i => H ≤ i) lv r.1
  own0 : w5.ownsRow B 5 1 v0 bs.length (b8s bs)
  at0 : ∀ i, v0.ownBlock = some i → i < R ∧ i ≠ L ∧ i ≠ g ∧ (hv.ownBlock = some i ∨ w.heap.size ≤ i)
  gl : g < w.heap.size
  sep : g ≠ R ∧ g ≠ L ∧ R ≠ L ∧ w.heap.size ≤ R ∧ w.heap.size ≤ L ∧ R < H ∧ L < H
  bas : B ≤ g

section
variable {w w5 w6 : World} {B g R L H : Nat} {hv v0 rv lv u : Value} {r : List (List UInt8) × List UInt8 × Bool} {bs : List UInt8}
/-- The store of the error that was caught. -/
theorem FMid.caught {eb : Nat} (h : FMid w B g R L hv v0 r bs H rv lv w5) (k : Only (fun i => i = eb) w5 w6) (he : R < eb ∧ eb ≠ L ∧ eb < H) : FMid w B g R L hv v0 r bs H rv lv w6 := by
  obtain ⟨s1, s2, s3, s4, s5, s6, s7⟩ := h.sep
  have := h.gl
  exact ⟨h.has.only k (by omega), h.low.trans k (fun i hi e => by omega), h.road.only k (by omega), fun q => (h.rd q).only k (fun i _ hi e => by have := (h.at0 i hi).1; omega), h.same, h.list.only k (by omega),
    h.ls.only k (fun i _ hi e => by omega), owns_only h.own0 k (fun i hi e => by have := (h.at0 i hi).1; omega), h.at0, h.gl, h.sep, h.bas⟩
theorem FMid.dead (h : FMid w B g R L hv v0 r bs H rv lv w5) (hd' : r.2.2 = true) (h0 : r.2.1 = []) :
    FeedStep 47 w B g hv r (.returned lv) ((w5.setCell ⟨g, 0, none⟩ (.slice none 0 0)).setCell ⟨g, 1, none⟩ (.bool true)) ∧ ((w5.setCell ⟨g, 0, none⟩ (.slice none 0 0)).setCell ⟨g, 1, none⟩ (.bool true)).cell? ⟨L, 0, none⟩ = some lv := by
  have k : Only (fun i => i = g) w5 ((w5.setCell ⟨g, 0, none⟩ (.slice none 0 0)).setCell ⟨g, 1, none⟩ (.bool true)) :=
    ((Only.refl (fun i => i = g) w5).setCell (p := ⟨g, 0, none⟩) (fun _ => rfl) _).setCell (p := ⟨g, 1, none⟩) (fun _ => rfl) _
  obtain ⟨s1, s2, s3, s4, s5, s6, s7⟩ := h.sep
  have hgl := h.gl
  have hL := (h.list.only k (fun e => s2 e.symm)).cell 0
  simp at hL
  refine ⟨⟨lv, .slice none 0 0, rfl, ?_, ⟨?_, ?_, h.bas⟩, h.low.trans k (fun i _ hi => .inl hi), fun i hi => by cases hi⟩, hL⟩
  · exact (h.ls.only k (fun i hi hE e => by omega)).mono (fun i _ hi => ⟨by omega, fun e => by cases e⟩)
  · rw [hd']
    have := (h.has.set 0 (.slice none 0 0)).set 1 (.bool true)
    simpa using this
  · rw [h0]
    exact World.ownsRow_nil _ _ _ _
/-- The store of a list of one's own. -/
theorem FMid.keeps (h : FMid w B g R L hv v0 r bs H rv lv w5) (hd' : r.2.2 = false) (k6 : Below w5.heap.size w5 w6) (hu : w6.ownsRow B 5 1 u r.2.1.length (b8s r.2.1))
    (hb : ∀ i, u.ownBlock = some i → i ≠ g ∧ (i < H ∨ w5.heap.size ≤ i) ∧ (hv.ownBlock = some i ∨ w.heap.size ≤ i)) :
    FeedStep 47 w B g hv r (.returned lv) (w6.setCell ⟨g, 0, none⟩ u) ∧ (w6.setCell ⟨g, 0, none⟩ u).cell? ⟨L, 0, none⟩ = some lv ∧ w6.cell? ⟨g, 0, none⟩ = some hv ∧ w6.frozen? ⟨g, 0, none⟩ = false := by
  have q6 := Only.of_below k6
  have s5' := h.low.size
  have hhas : Has w6 g 47 #[hv, .bool false] := h.has.only q6 (by have := h.has.lt; omega)
  have hlist : Has w6 L 31 #[lv] := h.list.only q6 (by have := h.list.lt; omega)
  have k : Only (fun i => i = g) w6 (w6.setCell ⟨g, 0, none⟩ u) := (Only.refl (fun i => i = g) w6).setCell (p := ⟨g, 0, none⟩) (fun _ => rfl) _
  obtain ⟨s1, s2, s3, s4, s5, s6, s7⟩ := h.sep
  have hgl := h.gl
  have hL := (hlist.only k (fun e => s2 e.symm)).cell 0
  simp at hL
  have hc0 := hhas.cell 0
  simp at hc0
  refine ⟨⟨lv, u, rfl, ?_, ⟨?_, owns_only hu k (fun i hi => (hb i hi).1), h.bas⟩, (h.low.trans q6 (fun i hi hn => by omega)).trans k (fun i _ hi => .inl hi), fun i hi => (hb i hi).2.2⟩, hL, hc0, hhas.frozen 0⟩
  · refine ((h.ls.mono (F := fun i => H ≤ i ∧ i < w5.heap.size) (fun i hi hE => ⟨hE, hi⟩)).only q6 (fun i hi hE e => by omega)).only k (fun i hi hE e => by omega) |>.mono (fun i _ hi => ⟨by omega, fun e => ?_⟩)
    have := (hb i e).2.1
    omega
  · rw [hd']
    have := hhas.set 0 u
    simpa using this
end

/-- What is told of the world when Feed hands its function over. -/
theorem feed_laid {w w3 : World} {B g : Nat} {hv v0 : Value} {held b : List UInt8} {m : Int} (h : StAt 47 w B g hv held false)
    (hown : w3.ownsRow B 5 1 v0 (held ++ b).length (b8s (held ++ b))) (hgr : ((w.alloc (.cells #[.int .i64 m] 3)).alloc (.cells #[.slice none 0 0] 31)).grownBy w3 hv.ownBlock)
    (hat : v0.ownBlock = hv.ownBlock ∨ v0.ownBlock = some ((w.alloc (.cells #[.int .i64 m] 3)).alloc (.cells #[.slice none 0 0] 31)).heap.size) :
    let W := (w3.alloc (.cells #[v0] 22)).alloc errBox
    FSep W w3.heap.size w.heap.size (w.heap.size + 1) (fun i => v0.ownBlock = some i) ∧ Has W w3.heap.size 22 #[v0] ∧ ElIs W (fun i => v0.ownBlock = some i) v0 (held ++ b) ∧ Has W w.heap.size 3 #[.int .i64 m] ∧
      Has W (w.heap.size + 1) 31 #[.slice none 0 0] ∧ Has W (w3.heap.size + 1) 36 #[.int .i64 0] ∧
      ∀ r w5, ∀ e, Feed1Step W w3.heap.size (w.heap.size + 1) (fun i => v0.ownBlock = some i) v0 r e w5 →
        ∃ rv lv, FMid w B g w3.heap.size (w.heap.size + 1) hv v0 r (held ++ b) (w3.heap.size + 2) rv lv w5 ∧ Has w5 (w3.heap.size + 1) 36 #[.int .i64 0] := by
  intro W
  have hs2 : ((w.alloc (.cells #[.int .i64 m] 3)).alloc (.cells #[.slice none 0 0] 31)).heap.size = w.heap.size + 2 := by simp
  have hs3 := hgr.size
  rw [hs2] at hs3 hat
  have hsW : W.heap.size = w3.heap.size + 2 := by simp [W]
  have k2 : Only (fun _ => False) w ((w.alloc (.cells #[.int .i64 m] 3)).alloc (.cells #[.slice none 0 0] 31)) := ((Only.refl _ w).alloc _).alloc _
  have k3 := Only.of_grown hgr
  have k23 : Only (fun i => hv.ownBlock = some i) w w3 := (k2.mono (T := fun i => hv.ownBlock = some i) (fun _ _ h => h.elim)).trans k3 (fun i _ hi => hi.symm)
  have kW : Only (fun _ => False) w3 W := ((Only.refl _ w3).alloc _).alloc _
  have hvl : ∀ i, hv.ownBlock = some i → i < w.heap.size := fun i hi => (h.own.lt i hi).2
  have hne := owns_ne h.own h.has (by decide)
  have hgl := h.has.lt
  have hM3 : Has w3 w.heap.size 3 #[.int .i64 m] := by
    have q := (Has.new w 3 #[.int .i64 m]).alloc (.cells #[.slice none 0 0] 31)
    exact q.only k3 (fun e => by have := hvl _ e.symm; omega)
  have hL3 : Has w3 (w.heap.size + 1) 31 #[.slice none 0 0] := by
    have q := Has.new (w.alloc (.cells #[.int .i64 m] 3)) 31 #[.slice none 0 0]
    simp only [World.size_alloc] at q
    exact q.only k3 (fun e => by have := hvl _ e.symm; omega)
  have hg3 : Has w3 g 47 #[hv, .bool false] := h.has.only k23 (fun e => hne e.symm)
  have hv0 : ∀ i, v0.ownBlock = some i → i < w3.heap.size ∧ i ≠ w.heap.size + 1 ∧ i ≠ g ∧ (hv.ownBlock = some i ∨ w.heap.size ≤ i) := by
    intro i hi
    refine ⟨(hown.lt i hi).2, ?_, ?_, ?_⟩
    · rcases hat with hat | hat
      · have := hvl i (hat ▸ hi)
        omega
      · rw [hat] at hi
        injection hi with hi
        omega
    · rintro rfl
      rcases hat with hat | hat
      · exact hne (hat ▸ hi).symm
      · rw [hat] at hi
        injection hi with hi
        omega
    · rcases hat with hat | hat
      · exact .inl (hat ▸ hi)
      · rw [hat] at hi
        injection hi with hi
        right
        omega
  have hR : Has W w3.heap.size 22 #[v0] := (Has.new w3 22 #[v0]).alloc _
  have hEb : Has W (w3.heap.size + 1) 36 #[.int .i64 0] := by
    have q := Has.new (w3.alloc (.cells #[v0] 22)) 36 #[.int .i64 0]
    simp only [World.size_alloc] at q
    exact q
  refine ⟨⟨by omega, by omega, by omega, by omega, by omega, by omega, fun i hi => ?_⟩, hR, (ElIs.of_own hown).only kW (fun _ _ _ h => h), hM3.only kW (fun h => h), hL3.only kW (fun h => h), hEb, ?_⟩
  · have := hv0 i hi
    omega
  · rintro r w5 e ⟨_, rv, lv, q1, q2, q3, q4, q5, q6⟩
    have k05 : Only (Foot g hv) w w5 := ((k23.mono (T := Foot g hv) (fun i _ hi => .inr hi)).trans kW (fun _ _ h => h.elim)).trans q6 (fun i hi hn => by omega)
    refine ⟨rv, lv, ⟨(hg3.only kW (fun h => h)).only q6 (by omega), k05, q1, q2, q3, q4, ?_, ?_, hv0, hgl, by omega, h.low⟩, hEb.only q6 (by omega)⟩
    · rw [← hsW]
      exact q5
    · exact owns_only (owns_only hown kW (fun _ _ h => h)) q6 (fun i hi hn => by have := hv0 i hi; omega)

set_option maxHeartbeats 400000 in
theorem feed_off (B g : Nat) (hv x : Value) (held b : List UInt8) (m : Int) (w : World) (h : StAt 47 w B g hv held true) :
    Calls Try.prog 10 #[.pointer (some ⟨g, 0, none⟩), x, .int .i64 m] w (FeedStep 47 w B g hv (feedS m held true b)) := by
  have k : Only (Foot g hv) w (w.alloc (.cells #[.int .i64 m] 3)) := (Only.refl _ w).alloc _
  have R : Hid (FeedStep 47 w B g hv (feedS m held true b) (.returned (.slice none 0 0)) (w.alloc (.cells #[.int .i64 m] 3))) := by
    refine ⟨_, hv, rfl, LsAt.nil _ _, ?_, k, fun i hi => .inl hi⟩
    exact h.only ((Only.refl (fun _ => False) w).alloc _) (fun _ _ h => h)
  have c1 := (h.has.alloc (.cells #[.int .i64 m] 3)).cell 1
  simp at c1
  clear h k
  go_enter Try.func10, Try.ntmps10
  go_wp2
  go_ret
  exact R.out

set_option maxHeartbeats 2000000 in
theorem feed_on (B g : Nat) (hv x : Value) (held b : List UInt8) (m : Int) (lo hi : Nat) (w : World) (h : StAt 47 w B g hv held false) (hx : SlIs w lo hi x b) (hhi : hi ≤ w.heap.size) (hl : held.length + b.length ≤ 1000000) :
    Calls Try.prog 10 #[.pointer (some ⟨g, 0, none⟩), x, .int .i64 m] w (FeedStep 47 w B g hv (feedS m held false b)) := by
  have hfe : feedS m held false b = cut m (held ++ b) := rfl
  rw [hfe]
  obtain ⟨i0, hi0, hz0, hz1, hz2⟩ := info_parts Try.info8
  have hmf : ∀ (fn : Fn) (first cap : Array Value) (w : World), (Instr.makeFunc fn first cap).run Try.prog w = .ok (.func fn first cap) w := fun _ _ _ _ => rfl
  have hll : (held ++ b).length = held.length + b.length := List.length_append
  have k2 : Only (fun _ => False) w ((w.alloc (.cells #[.int .i64 m] 3)).alloc (.cells #[.slice none 0 0] 31)) := ((Only.refl _ w).alloc _).alloc _
  have h2 := h.only k2 (fun _ _ h => h)
  have x2 := hx.only k2 hhi (fun _ _ _ h => h)
  have c1 := (h.has.alloc (.cells #[.int .i64 m] 3)).cell 1
  have c2 := h2.has.cell 0
  have hlt := h.has.lt
  obtain ⟨Ah, nh, ch, rfl⟩ := owns_form h.own
  simp at c1 c2
  have hb2 : B ≤ ((w.alloc (.cells #[.int .i64 m] 3)).alloc (.cells #[.slice none 0 0] 31)).heap.size := Nat.le_trans h.low (Nat.le_of_lt h2.has.lt)
  have HH := Lib.hid h
  have H2 := Lib.hid h2
  have X2 := Lib.hid x2
  have HB2 := Lib.hid hb2
  clear h h2 hx x2 k2 hfe hb2
  go_enter Try.func10, Try.ntmps10
  go_wp2_with (at_builtin; go_must (refine wpList_append_bytes _ rfl (.tmp 17) (.tmp 18) 22 rfl B 5 i0 Try.underlying22 hi0 hz0 hz1 hz2 _ held b rfl H2.out.own lo hi _ rfl X2.out (by omega) HB2.out ?_))
  intro v0 w3 h1 hgr hat
  obtain ⟨A0, n0, c0, rfl⟩ := owns_form h1
  obtain ⟨q1, q2, q3, q4, q5, q6, q7⟩ := feed_laid (m := m) HH.out (by simpa using h1) hgr (by simpa using hat)
  have C1 := feed1_any _ w3.heap.size w.heap.size (w.heap.size + 1) _ _ (held ++ b) m q1 q2 q3 q4 q5 (by omega)
  have hsz3 := hgr.size
  simp only [World.size_alloc] at hsz3
  have hdh := @cut_dead_held m _ (held ++ b) (Nat.le_refl _)
  have hnn := @cut_none m (held ++ b)
  have hcl := cut_len m _ (held ++ b) (Nat.le_refl _)
  have hbas := HH.out.low
  have hgl := HH.out.has.lt
  clear h1 hgr hat q1 q2 q3 q4 q5 HH H2 X2 HB2 c1 c2
  obtain ⟨r, hr⟩ : ∃ r, r = cut m (held ++ b) := ⟨_, rfl⟩
  rw [← hr] at C1 hdh hnn hcl
  have HR := Lib.hid hr
  obtain ⟨xs, rest, dead⟩ := r
  simp only at hdh hnn hcl
  cases dead with
  | true =>
    have CP := Lib.hid (caught_panic 19 _ Try.enterFeed1 (w3.alloc (.cells #[.slice A0 n0 c0] 22)) 2 (fun w5 => ∃ rv lv, FMid w B g w3.heap.size (w.heap.size + 1) (.slice Ah nh ch) (.slice A0 n0 c0) (xs, rest, true) (held ++ b) (w3.heap.size + 2) rv lv w5)
      (C1.mono fun e w' hh => ⟨hh.1, by obtain ⟨_, _, _, h⟩ := q7 _ _ _ hh; simpa using h, by obtain ⟨rv, lv, h, _⟩ := q7 _ _ _ hh; exact ⟨rv, lv, h⟩⟩))
    have HD := Lib.hid (hdh rfl)
    clear C1 q7 hdh hnn hr
    go_wp2_with fail
    refine CP.out.mono ?_
    rintro e w6 ⟨rfl, w5, hb5, ⟨rv, lv, M5⟩, rfl⟩
    have M6 := M5.caught (eb := w3.heap.size + 1) ((Only.refl (fun i => i = w3.heap.size + 1) w5).setCell (p := ⟨w3.heap.size + 1, 0, none⟩) (fun _ => rfl) (.int .i64 2)) (by omega)
    have e5 : (w3.alloc (.cells #[.slice A0 n0 c0] 22)).heap.size = w3.heap.size + 1 := by simp
    rw [e5]
    obtain ⟨w6, hw6⟩ : ∃ w6, w6 = w5.setCell ⟨w3.heap.size + 1, 0, none⟩ (.int .i64 2) := ⟨_, rfl⟩
    rw [← hw6] at M6 ⊢
    obtain ⟨F, cL⟩ := M6.dead rfl HD.out
    have c0' := M6.has.cell 0
    have c1' := M6.has.cell 1
    have f0 := M6.has.frozen 0
    have f1 := M6.has.frozen 1
    simp at c0' c1'
    obtain ⟨Al, nl, cl, rfl⟩ : ∃ A n c, lv = .slice A n c := by
      obtain ⟨A, c, e⟩ := M6.ls.form
      exact ⟨A, _, c, e⟩
    have R := Lib.hid F
    clear M5 M6 hb5 F CP HD hw6 e5
    go_wp2
    go_ret
    rw [← HR.out]
    exact R.out
  | false =>
    have CO := Lib.hid (caught_ok 19 _ Try.enterFeed1 (w3.alloc (.cells #[.slice A0 n0 c0] 22)) (fun w5 => ∃ rv lv, FMid w B g w3.heap.size (w.heap.size + 1) (.slice Ah nh ch) (.slice A0 n0 c0) (xs, rest, false) (held ++ b) (w3.heap.size + 2) rv lv w5)
      (C1.mono fun e w' hh => ⟨hh.1, by obtain ⟨_, _, _, h⟩ := q7 _ _ _ hh; simpa using h, by obtain ⟨rv, lv, h, _⟩ := q7 _ _ _ hh; exact ⟨rv, lv, h⟩⟩))
    clear C1 q7 hdh hr
    go_wp2_with fail
    refine CO.out.mono ?_
    rintro e w5 ⟨rfl, ⟨rv, lv, M5⟩⟩
    have cL := M5.list.cell 0
    have cR := M5.road.cell 0
    have cg := M5.has.cell 0
    have fg := M5.has.frozen 0
    simp at cL cR cg
    obtain ⟨Al, cl, rfl⟩ := M5.ls.form
    simp only at cL
    by_cases hx0 : xs = []
    · have hrv := M5.same rfl hx0
      subst hrv
      have hrest := hnn hx0 trivial
      obtain ⟨F, cL1, _, _⟩ := M5.keeps (u := .slice A0 n0 c0) rfl (Below.refl _ _) (by rw [hrest]; exact M5.own0) (fun i hi => by have := M5.at0 i hi; exact ⟨this.2.2.1, .inl (by omega), this.2.2.2⟩)
      have R := Lib.hid F
      subst hx0
      rw [List.length_nil] at cL cL1 R
      clear M5 F CO hnn hrest
      go_wp2
      go_ret
      rw [← HR.out]
      exact R.out
    · have hpos : (0 : Int) < (xs.length : Int) := by
        have : xs.length ≠ 0 := fun h => hx0 (List.eq_nil_of_length_eq_zero h)
        omega
      have hE := M5.rd rfl
      obtain ⟨Ar, cr, rfl, _⟩ := id hE
      have CC := Lib.hid (cloneb_any _ rest 0 w5.heap.size w5 hE.sl (Nat.le_refl _) (by omega))
      have HM := Lib.hid M5
      clear M5 hE CO hnn
      go_wp2_with fail
      refine CC.out.mono ?_
      rintro e w6 ⟨u, rfl, u6, b6⟩
      have hsz5 := HM.out.low.size
      obtain ⟨F, cL1, cg1, fg1⟩ := HM.out.keeps (u := u) rfl b6 (owns_base u6 (by omega)) (fun i hi => by have := (u6.lt i hi).1; exact ⟨by omega, .inr this, .inr (by omega)⟩)
      obtain ⟨Au, nu, cu, rfl⟩ := owns_form u6
      have R := Lib.hid F
      clear HM u6 b6 F CC
      go_wp2
      go_ret
      rw [← HR.out]
      exact R.out

/-- Feed, whatever comes. -/
theorem feed_any (B g : Nat) (hv x : Value) (held b : List UInt8) (dead : Bool) (m : Int) (lo hi : Nat) (w : World) (h : StAt 47 w B g hv held dead) (hx : SlIs w lo hi x b) (hhi : hi ≤ w.heap.size) (hl : held.length + b.length ≤ 1000000) :
    Calls Try.prog 10 #[.pointer (some ⟨g, 0, none⟩), x, .int .i64 m] w (FeedStep 47 w B g hv (feedS m held dead b)) := by
  cases dead with
  | true => exact feed_off B g hv x held b m w h
  | false => exact feed_on B g hv x held b m lo hi w h hx hhi hl
end Go.Proofs.Ytfldgoggaadohaa
