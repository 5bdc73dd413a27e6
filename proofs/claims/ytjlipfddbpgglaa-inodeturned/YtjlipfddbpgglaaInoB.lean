/-
  Package inode: putNumbers, takeNumbers.
-/
import Derived.Test.YtjlipfddbpgglaaInoA
import Derived.Test.YtjlipfddbpgglaaRowIs
namespace Go.Proofs.Ytjlipfddbpgglaa
open Go.RowKit Go.Lib
set_option maxRecDepth 100000

/-! ### numbers put, one behind the other -/
def u32v (ns : List Nat) : List Value := ns.map fun (n : Nat) => .int .u32 (n : Int)
theorem u32v_length (ns : List Nat) : (u32v ns).length = ns.length := by simp [u32v]
theorem u32v_get {ns : List Nat} {k : Nat} (h : k < ns.length) : (u32v ns)[k]? = some (.int .u32 (ns[k] : Int)) := by simp [u32v, h]
def putsB (ns : List Nat) : List UInt8 := ns.flatMap (putB 4)
theorem putsB_length (ns : List Nat) : (putsB ns).length = 4 * ns.length := by
  induction ns with
  | nil => rfl
  | cons n ns ih =>
    have : putsB (n :: ns) = putB 4 n ++ putsB ns := rfl
    rw [this, List.length_append, ih, putB_length, List.length_cons]
    omega
theorem putsB_take {ns : List Nat} {k : Nat} (h : k < ns.length) : putsB (ns.take (k + 1)) = putsB (ns.take k) ++ putB 4 ns[k] := by
  unfold putsB
  rw [List.take_add_one, List.getElem?_eq_getElem h, List.flatMap_append]
  simp only [Option.toList_some, List.flatMap_cons, List.flatMap_nil, List.append_nil]

/-- Between two puts of putNumbers. -/
structure PInv (w : World) (B g ex : Nat) (v : Value) (x : Value) (n : Nat) (us : List Value) (bs : List UInt8) (wr : World) (v' : Value) : Prop where
  out : OutAt wr B g v' bs
  row : RwIs wr (fun i => i = ex) n x us
  only : Only (Foot g v) w wr
  own : ∀ i, v'.ownBlock = some i → v.ownBlock = some i ∨ w.heap.size ≤ i
theorem PInv.step {w wr w' : World} {B g ex n : Nat} {v v' x : Value} {us : List Value} {bs bs' : List UInt8} {e : Ending} (h : PInv w B g ex v x n us bs wr v') (hex : ¬ Foot g v ex) (hlt : ex < w.heap.size)
    (k : OutStep wr B g v' bs' e w') : ∃ v2, e = .returned (.tuple #[]) ∧ PInv w B g ex v x n us bs' w' v2 := by
  obtain ⟨v2, he, o2, f2, _⟩ := id k
  have hs := h.only.size
  have hf : ∀ i, i < wr.heap.size → i = ex → ¬ Foot g v' i := by
    rintro i _ rfl hf
    rcases hf with hf | hf
    · exact hex (.inl hf)
    · rcases h.own i hf with h1 | h1
      · exact hex (.inr h1)
      · omega
  obtain ⟨v3, he3, o3, f3, g3⟩ := outstep_join h.only h.own k
  exact ⟨v3, he3, o3, h.row.only f2 hf, f3, g3⟩
set_option maxHeartbeats 1000000 in
theorem puts_any (B g ex : Nat) (v x : Value) (bs : List UInt8) (ns : List Nat) (w : World) (h : OutAt w B g v bs) (hx : RwIs w (fun i => i = ex) ns.length x (u32v ns)) (hex : ¬ Foot g v ex) (hlt : ex < w.heap.size)
    (hn : ∀ k (hk : k < ns.length), ns[k] < 4294967296) (hl : bs.length + 4 * ns.length ≤ 140737488355328) :
    Calls Try.prog 25 #[.pointer (some ⟨g, 0, none⟩), x] w (OutStep w B g v (bs ++ putsB ns)) := by
  obtain ⟨A, c, rfl, _⟩ := id hx
  have I0 : Hid (PInv w B g ex v (.slice A ns.length c) ns.length (u32v ns) bs w v) := Lib.hid ⟨h, hx, Only.refl _ _, fun i hi => .inl hi⟩
  clear h hx
  go_enter Try.func25, Try.ntmps25
  go_wp2
  go_loopw [8] (fun i wr => ∃ (k : Nat) (v' : Value), k ≤ ns.length ∧ i = .int .i64 (k : Int) ∧ Hid (PInv w B g ex v (.slice A ns.length c) ns.length (u32v ns) (bs ++ putsB (ns.take k)) wr v')) (fun i _ => ns.length - (intOf i).toNat)
  case atStart => exact ⟨0, v, Nat.zero_le _, rfl, by simpa [putsB] using I0⟩
  case round =>
    obtain ⟨k, v', hk, rfl, hrel⟩ := hrel
    clear I0
    by_cases hkl : k < ns.length
    · obtain ⟨A', c', e, hr⟩ := hrel.out.row
      injection e with e1 _ e3
      subst e1 e3
      obtain ⟨ad, rfl, _, _, hc⟩ := hr (by rw [u32v_length]; omega)
      have c0 := hc k _ (u32v_get hkl)
      have hb := hn k hkl
      have hw : IntKind.u64.wrap (ns[k] : Int) = (ns[k] : Int) := IntWalk.u64_in _ (by omega)
      have hL : (bs ++ putsB (ns.take k)).length + 4 ≤ 140737488355328 := by
        rw [List.length_append, putsB_length, List.length_take]
        omega
      have C := Lib.hid ((put_yes B g v' _ 4 ns[k] wr hrel.out.out (by omega) (by omega) (by omega) (by omega)).mono fun e w' k => hrel.out.step hex hlt k)
      have hT := putsB_take hkl
      rw [List.append_assoc, ← hT] at C
      generalize ns[k] = z at *
      have i1 : (k : Int) < (ns.length : Int) := by omega
      clear hr hc hT hrel
      go_wp2_with fail
      refine C.out.mono ?_
      rintro e w' ⟨v2, rfl, h2⟩
      have R := Lib.hid h2
      clear C h2 c0
      go_wp2
      go_roundw
      case rel => exact ⟨k + 1, v2, by omega, by go_num, R⟩
      case measure => simp [intOf]; omega
    · have hk2 : k = ns.length := by omega
      subst hk2
      have R : Hid (OutStep w B g v (bs ++ putsB ns) (.returned (.tuple #[])) wr) := Lib.hid (by
        have := hrel.out
        rw [List.take_length] at this
        exact ⟨v', rfl, this.out, this.only, this.own⟩)
      clear hrel
      go_wp2
      go_end0
      exact R.out

/-! ### numbers taken, one behind the other -/
def ptrv (rb : Nat) (ks : List Nat) : List Value := ks.map fun k => .pointer (some ⟨rb, k, none⟩)
theorem ptrv_length (rb : Nat) (ks : List Nat) : (ptrv rb ks).length = ks.length := by simp [ptrv]
theorem ptrv_get {rb : Nat} {ks : List Nat} {k : Nat} (h : k < ks.length) : (ptrv rb ks)[k]? = some (.pointer (some ⟨rb, ks[k], none⟩)) := by simp [ptrv, h]
/-- The cells, and what is left, behind as many takes. -/
def takesC : List Nat → Array Value → (List UInt8 × Int) → Array Value × (List UInt8 × Int)
  | [], cs, t => (cs, t)
  | k :: ks, cs, t => takesC ks (cs.setIfInBounds k (.int .u32 (tv 4 t : Int))) (tk 4 t)
/-- Between two takes of takeNumbers. -/
structure TInv (w : World) (lo g rb ex : Nat) (ks : List Nat) (j : Nat) (fin : Array Value × (List UInt8 × Int)) (x : Value) (wr : World) (cs : Array Value) (t : List UInt8 × Int) : Prop where
  inp : InAt wr lo g t.1 t.2
  res : Has wr rb 26 cs
  size : cs.size = 14
  row : RwIs wr (fun i => i = ex) ks.length x (ptrv rb ks)
  only : Only (fun i => i = g ∨ i = rb) w wr
  rest : takesC (ks.drop j) cs t = fin
/-- What takeNumbers leaves. -/
def TakesStep (w : World) (lo g rb : Nat) (r : Array Value × (List UInt8 × Int)) (e : Ending) (w' : World) : Prop :=
  e = .returned (.tuple #[]) ∧ InAt w' lo g r.2.1 r.2.2 ∧ Has w' rb 26 r.1 ∧ Only (fun i => i = g ∨ i = rb) w w'
theorem TInv.step {w wr w1 : World} {lo g rb ex j : Nat} {ks : List Nat} {fin : Array Value × (List UInt8 × Int)} {x : Value} {cs : Array Value} {t : List UInt8 × Int} (h : TInv w lo g rb ex ks j fin x wr cs t) (hj : j < ks.length)
    (hg : g < rb) (he : ex ≠ g ∧ ex ≠ rb) (i1 : InAt w1 lo g (tk 4 t).1 (tk 4 t).2) (f1 : Only (fun i => i = g) wr w1) :
    Has w1 rb 26 cs ∧ TInv w lo g rb ex ks (j + 1) fin x (w1.setCell ⟨rb, ks[j], none⟩ (.int .u32 (tv 4 t : Int))) (cs.setIfInBounds ks[j] (.int .u32 (tv 4 t : Int))) (tk 4 t) := by
  have r1 := h.res.only f1 (by omega)
  have k1 : Only (fun i => i = rb) w1 (w1.setCell ⟨rb, ks[j], none⟩ (.int .u32 (tv 4 t : Int))) := (Only.refl (fun i => i = rb) w1).setCell (p := ⟨rb, ks[j], none⟩) (fun _ => rfl) _
  refine ⟨r1, i1.only k1 (fun i _ hi => by omega), r1.set _ _, by simpa using h.size, (h.row.only f1 (fun i _ e => by omega)).only k1 (fun i _ e => by omega), ?_, ?_⟩
  · exact (h.only.trans f1 (fun i _ e => .inl e)).trans k1 (fun i _ e => .inr e)
  · have hr := h.rest
    rw [List.drop_eq_getElem_cons hj] at hr
    exact hr
set_option maxHeartbeats 1000000 in
theorem takes_any (lo g rb ex : Nat) (ks : List Nat) (x : Value) (cs : Array Value) (t : List UInt8 × Int) (w : World) (hI : InAt w lo g t.1 t.2) (hr : Has w rb 26 cs) (hs : cs.size = 14) (hx : RwIs w (fun i => i = ex) ks.length x (ptrv rb ks))
    (hg : g < rb) (he : ex ≠ g ∧ ex ≠ rb) (hk : ∀ j (hj : j < ks.length), ks[j] < 14) (hl : ks.length ≤ 1000) :
    Calls Try.prog 30 #[.pointer (some ⟨g, 0, none⟩), x] w (TakesStep w lo g rb (takesC ks cs t)) := by
  obtain ⟨A, c, rfl, _⟩ := id hx
  have I0 : Hid (TInv w lo g rb ex ks 0 (takesC ks cs t) (.slice A ks.length c) w cs t) := Lib.hid ⟨hI, hr, hs, hx, Only.refl _ _, rfl⟩
  generalize takesC ks cs t = fin at *
  clear hI hr hx hs
  go_enter Try.func30, Try.ntmps30
  go_wp2
  go_loopw [8] (fun i wr => ∃ (j : Nat) (cs : Array Value) (t : List UInt8 × Int), j ≤ ks.length ∧ i = .int .i64 (j : Int) ∧ Hid (TInv w lo g rb ex ks j fin (.slice A ks.length c) wr cs t)) (fun i _ => ks.length - (intOf i).toNat)
  case atStart => exact ⟨0, cs, t, Nat.zero_le _, rfl, I0⟩
  case round =>
    obtain ⟨j, cs, t, hj, rfl, hrel⟩ := hrel
    clear I0
    by_cases hjl : j < ks.length
    · obtain ⟨A', c', e, hr⟩ := hrel.out.row
      injection e with e1 _ e3
      subst e1 e3
      obtain ⟨ad, rfl, _, _, hc⟩ := hr (by rw [ptrv_length]; omega)
      have c0 := hc j _ (ptrv_get hjl)
      have hb := hk j hjl
      have hlt := tv4_lt t
      have C := Lib.hid ((take_any lo g 4 t.1 t.2 wr hrel.out.inp).mono fun e w1 hh => (show e = .returned (.int .u64 (tv 4 t : Int)) ∧ Has w1 rb 26 cs ∧ TInv w lo g rb ex ks (j + 1) fin (.slice (some ad) ks.length c) (w1.setCell ⟨rb, ks[j], none⟩ (.int .u32 (tv 4 t : Int))) (cs.setIfInBounds ks[j] (.int .u32 (tv 4 t : Int))) (tk 4 t) from
        ⟨hh.1, hrel.out.step hjl hg he hh.2.1 hh.2.2⟩))
      have hz := hrel.out.size
      obtain ⟨y, hy⟩ : ∃ y, cs[ks[j]]? = some y := ⟨cs[ks[j]]'(by omega), Array.getElem?_eq_getElem _⟩
      have hw : IntKind.u32.wrap (tv 4 t : Int) = (tv 4 t : Int) := IntWalk.u32_in _ (by omega)
      generalize ks[j] = z at *
      generalize tv 4 t = n at *
      have i1 : (j : Int) < (ks.length : Int) := by omega
      clear hr hc hrel
      go_wp2_with fail
      refine C.out.mono ?_
      rintro e w1 ⟨rfl, h1, h2⟩
      have R := Lib.hid h2
      have x0 := h1.cell z
      rw [hy] at x0
      have f0 := h1.frozen z
      clear C h2 c0 h1
      go_wp2
      go_roundw
      case rel => exact ⟨j + 1, _, _, by omega, by go_num, R⟩
      case measure => simp [intOf]; omega
    · have hk2 : j = ks.length := by omega
      subst hk2
      have R : Hid (TakesStep w lo g rb fin (.returned (.tuple #[])) wr) := Lib.hid (by
        have h := hrel.out
        have hr := h.rest
        rw [List.drop_length] at hr
        subst hr
        exact ⟨rfl, h.inp, h.res, h.only⟩)
      clear hrel
      go_wp2
      go_end0
      exact R.out
end Go.Proofs.Ytjlipfddbpgglaa
