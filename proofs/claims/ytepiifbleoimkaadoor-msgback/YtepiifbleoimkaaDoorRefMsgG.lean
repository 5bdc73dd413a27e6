/-
  The second reading's Encode.
-/
import Derived.Test.YtepiifbleoimkaaDoorRefMsgF
import Derived.Test.YtepiifbleoimkaaDoorMsgR
import Derived.Deep.QuietTactic
import Derived.BigQuiet
namespace Go.Proofs.YtepiifbleoimkaaDoor
open Go.RowKit
set_option maxRecDepth 100000

theorem Tryd.refMsgSize : (Tryd.prog.info? 46).map (·.size) = some 36 := by kernel_rfl
theorem lim_of {f : F} {k : K} (h : f.kind = k) (hk : k ≠ .texts ∧ k ≠ .qids ∧ k ≠ .data) : f.Lim := by
  subst h
  cases f with
  | texts L => exact absurd rfl hk.1
  | qids L => exact absurd rfl hk.2.1
  | data L => exact absurd rfl hk.2.2
  | num n x => trivial
  | text l => trivial
  | qid q => trivial
  | stat s => trivial
theorem named_lim {t : Nat} (ht : isType t) (h1 : t ≠ 110) (h2 : t ≠ 111) (h3 : t ≠ 117) (h4 : t ≠ 118) : ∀ p ∈ named t, p.1 ≠ .texts ∧ p.1 ≠ .qids ∧ p.1 ≠ .data := by
  rcases isType_cases ht with rfl | rfl | rfl | rfl | rfl | rfl | rfl | rfl | rfl | rfl | rfl | rfl | rfl | rfl | rfl | rfl | rfl | rfl | rfl | rfl | rfl | rfl | rfl | rfl | rfl | rfl | rfl <;> first | (exfalso; omega) | decide
theorem named_places' (t : Nat) : ∀ p ∈ named t, p ∈ places := by
  by_cases ht : isType t
  · obtain ⟨l, hl⟩ := Option.isSome_iff_exists.1 (named_some ht)
    have : named t = l := by rw [named, hl]; rfl
    rw [this]
    exact (named_mem hl).1
  · rw [named, namedOf_none ht]
    intro p hp
    cases hp
theorem fErr_num {f : F} {n : Nat} (h : f.kind = .num n) : fErr f = 0 := by
  obtain ⟨x, rfl⟩ := kind_num h
  rfl
theorem mem_fields {m : Nat → F} {l : List (K × Nat)} {f : F} (h : f ∈ fieldsOf m l) : ∃ p ∈ l, m p.2 = f := List.mem_map.1 h

/-- What the walk keeps behind the checks. -/
theorem rtail {w w3 : World} {t tag : Nat} {fs : List F} {bs : List UInt8} {bad : Int} {v3 : Value} (ht : isType t) (hb : bs = (rAll (rAdd (rAdd ([], 0) (.num 1 t)) (.num 2 tag)) fs).1) (hd : bad = (rAll (rAdd (rAdd ([], 0) (.num 1 t)) (.num 2 tag)) fs).2) (hl : ∀ f ∈ fs, f.Lim)
    (ho : w3.ownsRow w.heap.size 5 1 v3 bs.length (b8s bs)) (k : Below w.heap.size w w3) :
    (bad = 0 → Enc5Step w t tag fs (.returned (.tuple #[v3, .int .i64 0])) w3) ∧ (bad ≠ 0 → Enc5Step w t tag fs (.returned (.tuple #[.slice none 0 0, .int .i64 bad])) w3) := by
  have e0 : (rAdd (rAdd ([], 0) (.num 1 t)) (.num 2 tag)).2 = 0 := by simp [rAdd, rE, nextBad_zero]
  have e1 : bad = fErrL fs := by rw [hd, rAll_bad fs _ hl, e0]; exact if_pos rfl
  have e2 : encErr t fs = fErrL fs := if_pos ht
  refine ⟨fun h => .inl ⟨by rw [e2, ← e1]; exact h, v3, rfl, ?_, k⟩, fun h => .inr ⟨by rw [e2, ← e1]; exact h, by rw [e2, ← e1], k⟩⟩
  have e3 : bs = msgB t tag fs := by
    rw [hb, rAll_bytes fs _ (by rw [← e1]; exact h)]
    simp [rAdd, rB, fB, msgB]
  rw [← e3]
  exact ho

theorem enc_drew (n : Nat) {w w3 : World} {t tag : Nat} {fs : List F} {bad : Int} (hb : bad ≠ 0) (h : Enc5Step w t tag fs (.returned (.tuple #[.slice none 0 0, .int .i64 bad])) w3) : Enc5Step w t tag fs (.returned (.tuple #[.slice none 0 0, .int .i64 bad])) (w3.drewN n) := by
  rcases h with ⟨_, v, he, _⟩ | ⟨h1, h2, k⟩
  · simp at he
    exact absurd he.2 hb
  · exact .inr ⟨h1, h2, k.trans ((below_drewN w3 n).mono k.size)⟩

set_option maxHeartbeats 2000000 in
theorem rencode_other (lo hi t tag : Nat) (cs : Array Value) (m : Nat → F) (w : World) (hm : RMgAt w lo hi cs m) (h0 : m 0 = .num 1 t) (h1 : m 1 = .num 2 tag) (hok : ∀ p ∈ places, (m p.2).Ok ∧ (m p.2).Few) (hhi : hi ≤ w.heap.size) (ht : isType t) (n110 : t ≠ 110) (n111 : t ≠ 111) (n117 : t ≠ 117) (n118 : t ≠ 118) :
    Calls Tryd.prog 11 #[.agg cs] w (Enc5Step w t tag (fieldsOf m (named t))) := by
  have hlim : ∀ f ∈ fieldsOf m (named t), f.Lim := fun f hf => by
    obtain ⟨p, hp, rfl⟩ := mem_fields hf
    exact lim_of (hm.kind p (named_places' t p hp)) (named_lim ht n110 n111 n117 n118 p hp)
  have e110 : ((t : Int) == 110) = false := by simp; omega
  have e111 : ((t : Int) == 111) = false := by simp; omega
  have e117 : ((t : Int) == 117) = false := by simp; omega
  have e118 : ((t : Int) == 118) = false := by simp; omega
  have a0 := hm.lies (.num 1, 0) (by decide)
  simp only [h0] at a0
  have a1 := hm.lies (.num 2, 1) (by decide)
  simp only [h1] at a1
  have b0 := (hok (.num 1, 0) (by decide)).1
  simp only [h0] at b0
  have b1 := (hok (.num 2, 1) (by decide)).1
  simp only [h1] at b1
  have g0 : t < 256 ^ 1 := b0.2.2
  have g1 : tag < 256 ^ 2 := b1.2.2
  have u0 : IntKind.u64.wrap ((t : Nat) : Int) = ((t : Nat) : Int) := IntWalk.u64_in _ (by omega)
  have u1 : IntKind.u64.wrap (tag : Int) = (tag : Int) := IntWalk.u64_in _ (by omega)
  have hsize := hm.size
  obtain ⟨W, hW⟩ : ∃ W, W = (w.alloc (.cells cs 46)).alloc (.cells #[.slice none 0 0, .int .i64 0] 72) := ⟨_, rfl⟩
  have k0 : Only (fun _ => False) w W := by rw [hW]; exact ((Only.refl _ w).alloc _).alloc _
  have n0 : Has W w.heap.size 46 cs := by rw [hW]; exact (Has.new w _ _).alloc _
  have kO : ROutAt W w.heap.size (w.heap.size + 1) (.slice none 0 0) [] 0 := by
    rw [hW]
    refine ⟨?_, World.ownsRow_nil _ _ _ _, by omega⟩
    have := Has.new (w.alloc (.cells cs 46)) 72 #[.slice none 0 0, .int .i64 0]
    simpa using this
  have hlow : ∀ i, Foot (w.heap.size + 1) (.slice none 0 0) i → i = w.heap.size + 1 := by
    intro i h
    rcases h with h | h
    · exact h
    · cases h
  have X0 := Lib.hid (RC.start (st := ([], 0)) (n := 0) kO (Nat.le_refl _))
  have HM := Lib.hid (fun (w1 : World) (v1 : Value) (st1 : List UInt8 × Int) (n : Nat) (c : RC W w.heap.size (w.heap.size + 1) (.slice none 0 0) st1 n w1 v1) => n0.only c.only (fun h => by have := hlow _ h; omega))
  have hmW := hm.keep (k0.keeps hhi (fun _ _ _ h => h))
  have hWs := k0.size
  have HK := Lib.hid (fun (w1 : World) (v1 : Value) (st1 : List UInt8 × Int) (n : Nat) (c : RC W w.heap.size (w.heap.size + 1) (.slice none 0 0) st1 n w1 v1) => hmW.keep (c.only.keeps (by omega) (fun i _ hi hf => by have := hlow i hf; omega)))
  have HO : Hid (∀ f ∈ fieldsOf m (named t), f.Ok ∧ f.Few) := Lib.hid (fun f hf => by
    obtain ⟨p, hp, rfl⟩ := mem_fields hf
    exact hok p (named_places' _ p hp))
  have HF := Lib.hid (fun (w3 : World) (bs : List UInt8) (bad : Int) (v3 : Value) hb hd ho k => rtail (w := w) (w3 := w3) (tag := tag) (bs := bs) (bad := bad) (v3 := v3) ht hb hd hlim ho k)
  have KB : Hid (∀ w3, Only (Foot (w.heap.size + 1) (.slice none 0 0)) W w3 → Below w.heap.size w w3) := Lib.hid (fun w3 f => ((k0.mono (fun _ _ h => h.elim)).trans f (fun _ _ h => h)).below (Nat.le_refl _) (fun i hi h => by have := hlow i h; omega))
  have KN := Lib.hid (fun (W : World) => refknown_any t W)
  have hk1 : decide (isType t) = true := decide_eq_true ht
  rw [hk1] at KN
  have d0b : W.cell? ⟨w.heap.size, 0, none⟩ = some (.int .u8 ((t : Nat) : Int)) := (n0.cell 0).trans a0
  rw [hW] at d0b
  have HW := Lib.hid hW.symm
  have d0 : (w.alloc (.cells cs 46)).cell? ⟨w.heap.size, 0, none⟩ = some (.int .u8 ((t : Nat) : Int)) := ((Has.new w 46 cs).cell 0).trans a0
  clear hm h1 hok hW k0 n0 kO hmW hlow hlim b0 b1 n110 n111 n117 n118
  go_enter Tryd.func11, Tryd.ntmps11
  go_wp2_with fail
  refine (KN.out _).mono ?_
  rintro e w' ⟨rfl, rfl⟩
  clear KN
  go_wp2_with fail
  rw [HW.out]
  clear HW
  refine (rc_num X0.out (by omega) 1 t (by omega) (by omega)).mono ?_
  rintro e w1 ⟨v1, rfl, y1⟩
  have m1 := HM.out _ _ _ _ y1
  have d1 : w1.cell? ⟨w.heap.size, 1, none⟩ = some (.int .u16 (tag : Int)) := (m1.cell 1).trans a1
  have X1 := Lib.hid y1
  clear y1 m1 X0 d0 d0b
  go_wp2_with fail
  refine (rc_num X1.out (by omega) 2 tag (by omega) (by omega)).mono ?_
  rintro e w2 ⟨v2, rfl, y2⟩
  have M2 := Lib.hid (HM.out _ _ _ _ y2)
  have C2 := Lib.hid (rbody_any w.heap.size (w.heap.size + 1) lo hi t v2 _ cs m w2 y2.out (by have := y2.len; omega) hhi (HK.out _ _ _ _ y2) h0 HO.out)
  have Y2 := Lib.hid y2
  clear y2 X1 HM HK HO d1
  go_wp2_with (first
    | (refine load_struct Tryd.underlying46 rfl Tryd.refMsgSize w.heap.size cs (.tmp 1) rfl rfl rfl M2.out hsize ?_)
    | fail)
  refine C2.out.mono ?_
  intro e w3 st3
  obtain ⟨v3, rfl, o3, k3, _⟩ := ROutStep.next Y2.out.only Y2.out.own st3
  have e0 : w3.cell? ⟨w.heap.size + 1, 0, none⟩ = some v3 := (o3.has.cell 0).trans rfl
  have e1 : w3.cell? ⟨w.heap.size + 1, 1, none⟩ = some (.int .i64 (rAll (rAdd (rAdd ([], 0) (.num 1 t)) (.num 2 tag)) (fieldsOf m (named t))).2) := (o3.has.cell 1).trans rfl
  have F3 := HF.out w3 _ _ v3 rfl rfl o3.own (KB.out _ k3)
  obtain ⟨A3, c3, hv3, _⟩ := owns_slice o3.own
  generalize (rAll (rAdd (rAdd ([], 0) (.num 1 t)) (.num 2 tag)) (fieldsOf m (named t))).2 = bad at e1 F3
  have F := Lib.hid F3
  clear st3 o3 k3 F3 HF KB C2 Y2 M2
  subst hv3
  by_cases hbz : bad = 0
  · subst hbz
    have R := Lib.hid (F.out.1 rfl)
    clear F
    go_wp2
    go_ret2
    exact R.out
  · have hd : (bad != 0) = true := by simpa using hbz
    have R := Lib.hid (fun n => enc_drew n hbz (F.out.2 hbz))
    clear F
    go_wp2_with fail
    go_quiet (fail)
    go_wp2
    go_ret2
    exact R.out _
set_option maxHeartbeats 2000000 in
theorem rencode_110 (lo hi tag : Nat) (cs : Array Value) (m : Nat → F) (w : World) (hm : RMgAt w lo hi cs m) (h0 : m 0 = .num 1 110) (h1 : m 1 = .num 2 tag) (hok : ∀ p ∈ places, (m p.2).Ok ∧ (m p.2).Few) (hhi : hi ≤ w.heap.size) (ht : isType 110) (L : List (List UInt8)) (e11 : m 11 = .texts L) (hle : L.length ≤ 16) :
    Calls Tryd.prog 11 #[.agg cs] w (Enc5Step w 110 tag (fieldsOf m (named 110))) := by
  have a11 := hm.lies (.texts, 11) (by decide)
  simp only [e11] at a11
  obtain ⟨x11, b11, A11, c11, rfl, _⟩ := a11
  have hlim : ∀ f ∈ fieldsOf m (named 110), f.Lim := by
    intro f hf
    obtain ⟨p, hp, rfl⟩ := mem_fields hf
    have hk := hm.kind p (named_places' _ p hp)
    have hp' : p = (.num 4, 4) ∨ p = (.num 4, 6) ∨ p = (.texts, 11) := by simpa [named, namedOf] using hp
    rcases hp' with rfl | rfl | rfl
    · exact lim_of hk (by decide)
    · exact lim_of hk (by decide)
    · simp only [e11]
      exact hle
  have hdA : decide ((16 : Int) < (L.length : Int)) = false := decide_eq_false (by omega)
  have a0 := hm.lies (.num 1, 0) (by decide)
  simp only [h0] at a0
  have a1 := hm.lies (.num 2, 1) (by decide)
  simp only [h1] at a1
  have b0 := (hok (.num 1, 0) (by decide)).1
  simp only [h0] at b0
  have b1 := (hok (.num 2, 1) (by decide)).1
  simp only [h1] at b1
  have g0 : 110 < 256 ^ 1 := b0.2.2
  have g1 : tag < 256 ^ 2 := b1.2.2
  have u0 : IntKind.u64.wrap ((110 : Nat) : Int) = ((110 : Nat) : Int) := IntWalk.u64_in _ (by omega)
  have u1 : IntKind.u64.wrap (tag : Int) = (tag : Int) := IntWalk.u64_in _ (by omega)
  have hsize := hm.size
  obtain ⟨W, hW⟩ : ∃ W, W = (w.alloc (.cells cs 46)).alloc (.cells #[.slice none 0 0, .int .i64 0] 72) := ⟨_, rfl⟩
  have k0 : Only (fun _ => False) w W := by rw [hW]; exact ((Only.refl _ w).alloc _).alloc _
  have n0 : Has W w.heap.size 46 cs := by rw [hW]; exact (Has.new w _ _).alloc _
  have kO : ROutAt W w.heap.size (w.heap.size + 1) (.slice none 0 0) [] 0 := by
    rw [hW]
    refine ⟨?_, World.ownsRow_nil _ _ _ _, by omega⟩
    have := Has.new (w.alloc (.cells cs 46)) 72 #[.slice none 0 0, .int .i64 0]
    simpa using this
  have hlow : ∀ i, Foot (w.heap.size + 1) (.slice none 0 0) i → i = w.heap.size + 1 := by
    intro i h
    rcases h with h | h
    · exact h
    · cases h
  have X0 := Lib.hid (RC.start (st := ([], 0)) (n := 0) kO (Nat.le_refl _))
  have HM := Lib.hid (fun (w1 : World) (v1 : Value) (st1 : List UInt8 × Int) (n : Nat) (c : RC W w.heap.size (w.heap.size + 1) (.slice none 0 0) st1 n w1 v1) => n0.only c.only (fun h => by have := hlow _ h; omega))
  have hmW := hm.keep (k0.keeps hhi (fun _ _ _ h => h))
  have hWs := k0.size
  have HK := Lib.hid (fun (w1 : World) (v1 : Value) (st1 : List UInt8 × Int) (n : Nat) (c : RC W w.heap.size (w.heap.size + 1) (.slice none 0 0) st1 n w1 v1) => hmW.keep (c.only.keeps (by omega) (fun i _ hi hf => by have := hlow i hf; omega)))
  have HO : Hid (∀ f ∈ fieldsOf m (named 110), f.Ok ∧ f.Few) := Lib.hid (fun f hf => by
    obtain ⟨p, hp, rfl⟩ := mem_fields hf
    exact hok p (named_places' _ p hp))
  have HF := Lib.hid (fun (w3 : World) (bs : List UInt8) (bad : Int) (v3 : Value) hb hd ho k => rtail (w := w) (w3 := w3) (tag := tag) (bs := bs) (bad := bad) (v3 := v3) ht hb hd hlim ho k)
  have KB : Hid (∀ w3, Only (Foot (w.heap.size + 1) (.slice none 0 0)) W w3 → Below w.heap.size w w3) := Lib.hid (fun w3 f => ((k0.mono (fun _ _ h => h.elim)).trans f (fun _ _ h => h)).below (Nat.le_refl _) (fun i hi h => by have := hlow i h; omega))
  have KN := Lib.hid (fun (W : World) => refknown_any 110 W)
  have hk1 : decide (isType 110) = true := decide_eq_true ht
  rw [hk1] at KN
  have d0b : W.cell? ⟨w.heap.size, 0, none⟩ = some (.int .u8 ((110 : Nat) : Int)) := (n0.cell 0).trans a0
  rw [hW] at d0b
  have HW := Lib.hid hW.symm
  have d0 : (w.alloc (.cells cs 46)).cell? ⟨w.heap.size, 0, none⟩ = some (.int .u8 ((110 : Nat) : Int)) := ((Has.new w 46 cs).cell 0).trans a0
  have d11 : (w.alloc (.cells cs 46)).cell? ⟨w.heap.size, 11, none⟩ = _ := ((Has.new w 46 cs).cell 11).trans b11
  clear hm h1 hok hW k0 n0 kO hmW hlow hlim b0 b1
  go_enter Tryd.func11, Tryd.ntmps11
  go_wp2_with fail
  refine (KN.out _).mono ?_
  rintro e w' ⟨rfl, rfl⟩
  clear KN
  go_wp2_with fail
  rw [HW.out]
  clear HW
  refine (rc_num X0.out (by omega) 1 110 (by omega) (by omega)).mono ?_
  rintro e w1 ⟨v1, rfl, y1⟩
  have m1 := HM.out _ _ _ _ y1
  have d1 : w1.cell? ⟨w.heap.size, 1, none⟩ = some (.int .u16 (tag : Int)) := (m1.cell 1).trans a1
  have X1 := Lib.hid y1
  clear y1 m1 X0 d0 d0b d11
  go_wp2_with fail
  refine (rc_num X1.out (by omega) 2 tag (by omega) (by omega)).mono ?_
  rintro e w2 ⟨v2, rfl, y2⟩
  have M2 := Lib.hid (HM.out _ _ _ _ y2)
  have C2 := Lib.hid (rbody_any w.heap.size (w.heap.size + 1) lo hi 110 v2 _ cs m w2 y2.out (by have := y2.len; omega) hhi (HK.out _ _ _ _ y2) h0 HO.out)
  have Y2 := Lib.hid y2
  clear y2 X1 HM HK HO d1
  go_wp2_with (first
    | (refine load_struct Tryd.underlying46 rfl Tryd.refMsgSize w.heap.size cs (.tmp 1) rfl rfl rfl M2.out hsize ?_)
    | fail)
  refine C2.out.mono ?_
  intro e w3 st3
  obtain ⟨v3, rfl, o3, k3, _⟩ := ROutStep.next Y2.out.only Y2.out.own st3
  have e0 : w3.cell? ⟨w.heap.size + 1, 0, none⟩ = some v3 := (o3.has.cell 0).trans rfl
  have e1 : w3.cell? ⟨w.heap.size + 1, 1, none⟩ = some (.int .i64 (rAll (rAdd (rAdd ([], 0) (.num 1 110)) (.num 2 tag)) (fieldsOf m (named 110))).2) := (o3.has.cell 1).trans rfl
  have F3 := HF.out w3 _ _ v3 rfl rfl o3.own (KB.out _ k3)
  obtain ⟨A3, c3, hv3, _⟩ := owns_slice o3.own
  generalize (rAll (rAdd (rAdd ([], 0) (.num 1 110)) (.num 2 tag)) (fieldsOf m (named 110))).2 = bad at e1 F3
  have F := Lib.hid F3
  clear st3 o3 k3 F3 HF KB C2 Y2 M2
  subst hv3
  by_cases hbz : bad = 0
  · subst hbz
    have R := Lib.hid (F.out.1 rfl)
    clear F
    go_wp2
    go_ret2
    exact R.out
  · have hd : (bad != 0) = true := by simpa using hbz
    have R := Lib.hid (fun n => enc_drew n hbz (F.out.2 hbz))
    clear F
    go_wp2_with fail
    go_quiet (fail)
    go_wp2
    go_ret2
    exact R.out _
set_option maxHeartbeats 2000000 in
theorem rencode_110x (lo hi tag : Nat) (cs : Array Value) (m : Nat → F) (w : World) (hm : RMgAt w lo hi cs m) (h0 : m 0 = .num 1 110) (ht : isType 110) (L : List (List UInt8)) (e11 : m 11 = .texts L) (hgt : 16 < L.length) :
    Calls Tryd.prog 11 #[.agg cs] w (Enc5Step w 110 tag (fieldsOf m (named 110))) := by
  have a0 := hm.lies (.num 1, 0) (by decide)
  simp only [h0] at a0
  have a11 := hm.lies (.texts, 11) (by decide)
  simp only [e11] at a11
  obtain ⟨x11, b11, A11, c11, rfl, _⟩ := a11
  have q4 := fErr_num (hm.kind (.num 4, 4) (by decide))
  have q6 := fErr_num (hm.kind (.num 4, 6) (by decide))
  have hE : encErr 110 (fieldsOf m (named 110)) = 3 := by
    show (if isType 110 then (if fErr (m 4) = 0 then (if fErr (m 6) = 0 then (if fErr (m 11) = 0 then 0 else fErr (m 11)) else fErr (m 6)) else fErr (m 4)) else 2) = 3
    rw [if_pos ht, if_pos q4, if_pos q6, e11]
    have h3 : fErr (.texts L) = 3 := if_pos hgt
    rw [h3]
    rfl
  have R : Hid (Enc5Step w 110 tag (fieldsOf m (named 110)) (.returned (.tuple #[.slice none 0 0, .int .i64 3])) (w.alloc (.cells cs 46))) := Lib.hid (.inr ⟨by rw [hE]; decide, by rw [hE], (Below.refl _ _).alloc (Nat.le_refl _) _⟩)
  have hdA : decide ((16 : Int) < (L.length : Int)) = true := decide_eq_true (by omega)
  have KN := Lib.hid (fun (W : World) => refknown_any 110 W)
  have hk1 : decide (isType 110) = true := decide_eq_true ht
  rw [hk1] at KN
  have d0 : (w.alloc (.cells cs 46)).cell? ⟨w.heap.size, 0, none⟩ = some (.int .u8 ((110 : Nat) : Int)) := ((Has.new w 46 cs).cell 0).trans a0
  have d11 : (w.alloc (.cells cs 46)).cell? ⟨w.heap.size, 11, none⟩ = _ := ((Has.new w 46 cs).cell 11).trans b11
  clear hm hE hgt
  go_enter Tryd.func11, Tryd.ntmps11
  go_wp2_with fail
  refine (KN.out _).mono ?_
  rintro e w' ⟨rfl, rfl⟩
  clear KN
  go_wp2
  go_ret2
  exact R.out
set_option maxHeartbeats 2000000 in
theorem rencode_111 (lo hi tag : Nat) (cs : Array Value) (m : Nat → F) (w : World) (hm : RMgAt w lo hi cs m) (h0 : m 0 = .num 1 111) (h1 : m 1 = .num 2 tag) (hok : ∀ p ∈ places, (m p.2).Ok ∧ (m p.2).Few) (hhi : hi ≤ w.heap.size) (ht : isType 111) (L : List Q3) (e12 : m 12 = .qids L) (hle : L.length ≤ 16) :
    Calls Tryd.prog 11 #[.agg cs] w (Enc5Step w 111 tag (fieldsOf m (named 111))) := by
  have a12 := hm.lies (.qids, 12) (by decide)
  simp only [e12] at a12
  obtain ⟨x12, b12, A12, c12, rfl, _⟩ := a12
  have hlim : ∀ f ∈ fieldsOf m (named 111), f.Lim := by
    intro f hf
    obtain ⟨p, hp, rfl⟩ := mem_fields hf
    have hk := hm.kind p (named_places' _ p hp)
    have hp' : p = (.qids, 12) := by simpa [named, namedOf] using hp
    rcases hp' with rfl
    · simp only [e12]
      exact hle
  have hdA : decide ((16 : Int) < (L.length : Int)) = false := decide_eq_false (by omega)
  have a0 := hm.lies (.num 1, 0) (by decide)
  simp only [h0] at a0
  have a1 := hm.lies (.num 2, 1) (by decide)
  simp only [h1] at a1
  have b0 := (hok (.num 1, 0) (by decide)).1
  simp only [h0] at b0
  have b1 := (hok (.num 2, 1) (by decide)).1
  simp only [h1] at b1
  have g0 : 111 < 256 ^ 1 := b0.2.2
  have g1 : tag < 256 ^ 2 := b1.2.2
  have u0 : IntKind.u64.wrap ((111 : Nat) : Int) = ((111 : Nat) : Int) := IntWalk.u64_in _ (by omega)
  have u1 : IntKind.u64.wrap (tag : Int) = (tag : Int) := IntWalk.u64_in _ (by omega)
  have hsize := hm.size
  obtain ⟨W, hW⟩ : ∃ W, W = (w.alloc (.cells cs 46)).alloc (.cells #[.slice none 0 0, .int .i64 0] 72) := ⟨_, rfl⟩
  have k0 : Only (fun _ => False) w W := by rw [hW]; exact ((Only.refl _ w).alloc _).alloc _
  have n0 : Has W w.heap.size 46 cs := by rw [hW]; exact (Has.new w _ _).alloc _
  have kO : ROutAt W w.heap.size (w.heap.size + 1) (.slice none 0 0) [] 0 := by
    rw [hW]
    refine ⟨?_, World.ownsRow_nil _ _ _ _, by omega⟩
    have := Has.new (w.alloc (.cells cs 46)) 72 #[.slice none 0 0, .int .i64 0]
    simpa using this
  have hlow : ∀ i, Foot (w.heap.size + 1) (.slice none 0 0) i → i = w.heap.size + 1 := by
    intro i h
    rcases h with h | h
    · exact h
    · cases h
  have X0 := Lib.hid (RC.start (st := ([], 0)) (n := 0) kO (Nat.le_refl _))
  have HM := Lib.hid (fun (w1 : World) (v1 : Value) (st1 : List UInt8 × Int) (n : Nat) (c : RC W w.heap.size (w.heap.size + 1) (.slice none 0 0) st1 n w1 v1) => n0.only c.only (fun h => by have := hlow _ h; omega))
  have hmW := hm.keep (k0.keeps hhi (fun _ _ _ h => h))
  have hWs := k0.size
  have HK := Lib.hid (fun (w1 : World) (v1 : Value) (st1 : List UInt8 × Int) (n : Nat) (c : RC W w.heap.size (w.heap.size + 1) (.slice none 0 0) st1 n w1 v1) => hmW.keep (c.only.keeps (by omega) (fun i _ hi hf => by have := hlow i hf; omega)))
  have HO : Hid (∀ f ∈ fieldsOf m (named 111), f.Ok ∧ f.Few) := Lib.hid (fun f hf => by
    obtain ⟨p, hp, rfl⟩ := mem_fields hf
    exact hok p (named_places' _ p hp))
  have HF := Lib.hid (fun (w3 : World) (bs : List UInt8) (bad : Int) (v3 : Value) hb hd ho k => rtail (w := w) (w3 := w3) (tag := tag) (bs := bs) (bad := bad) (v3 := v3) ht hb hd hlim ho k)
  have KB : Hid (∀ w3, Only (Foot (w.heap.size + 1) (.slice none 0 0)) W w3 → Below w.heap.size w w3) := Lib.hid (fun w3 f => ((k0.mono (fun _ _ h => h.elim)).trans f (fun _ _ h => h)).below (Nat.le_refl _) (fun i hi h => by have := hlow i h; omega))
  have KN := Lib.hid (fun (W : World) => refknown_any 111 W)
  have hk1 : decide (isType 111) = true := decide_eq_true ht
  rw [hk1] at KN
  have d0b : W.cell? ⟨w.heap.size, 0, none⟩ = some (.int .u8 ((111 : Nat) : Int)) := (n0.cell 0).trans a0
  rw [hW] at d0b
  have HW := Lib.hid hW.symm
  have d0 : (w.alloc (.cells cs 46)).cell? ⟨w.heap.size, 0, none⟩ = some (.int .u8 ((111 : Nat) : Int)) := ((Has.new w 46 cs).cell 0).trans a0
  have d12 : (w.alloc (.cells cs 46)).cell? ⟨w.heap.size, 12, none⟩ = _ := ((Has.new w 46 cs).cell 12).trans b12
  clear hm h1 hok hW k0 n0 kO hmW hlow hlim b0 b1
  go_enter Tryd.func11, Tryd.ntmps11
  go_wp2_with fail
  refine (KN.out _).mono ?_
  rintro e w' ⟨rfl, rfl⟩
  clear KN
  go_wp2_with fail
  rw [HW.out]
  clear HW
  refine (rc_num X0.out (by omega) 1 111 (by omega) (by omega)).mono ?_
  rintro e w1 ⟨v1, rfl, y1⟩
  have m1 := HM.out _ _ _ _ y1
  have d1 : w1.cell? ⟨w.heap.size, 1, none⟩ = some (.int .u16 (tag : Int)) := (m1.cell 1).trans a1
  have X1 := Lib.hid y1
  clear y1 m1 X0 d0 d0b d12
  go_wp2_with fail
  refine (rc_num X1.out (by omega) 2 tag (by omega) (by omega)).mono ?_
  rintro e w2 ⟨v2, rfl, y2⟩
  have M2 := Lib.hid (HM.out _ _ _ _ y2)
  have C2 := Lib.hid (rbody_any w.heap.size (w.heap.size + 1) lo hi 111 v2 _ cs m w2 y2.out (by have := y2.len; omega) hhi (HK.out _ _ _ _ y2) h0 HO.out)
  have Y2 := Lib.hid y2
  clear y2 X1 HM HK HO d1
  go_wp2_with (first
    | (refine load_struct Tryd.underlying46 rfl Tryd.refMsgSize w.heap.size cs (.tmp 1) rfl rfl rfl M2.out hsize ?_)
    | fail)
  refine C2.out.mono ?_
  intro e w3 st3
  obtain ⟨v3, rfl, o3, k3, _⟩ := ROutStep.next Y2.out.only Y2.out.own st3
  have e0 : w3.cell? ⟨w.heap.size + 1, 0, none⟩ = some v3 := (o3.has.cell 0).trans rfl
  have e1 : w3.cell? ⟨w.heap.size + 1, 1, none⟩ = some (.int .i64 (rAll (rAdd (rAdd ([], 0) (.num 1 111)) (.num 2 tag)) (fieldsOf m (named 111))).2) := (o3.has.cell 1).trans rfl
  have F3 := HF.out w3 _ _ v3 rfl rfl o3.own (KB.out _ k3)
  obtain ⟨A3, c3, hv3, _⟩ := owns_slice o3.own
  generalize (rAll (rAdd (rAdd ([], 0) (.num 1 111)) (.num 2 tag)) (fieldsOf m (named 111))).2 = bad at e1 F3
  have F := Lib.hid F3
  clear st3 o3 k3 F3 HF KB C2 Y2 M2
  subst hv3
  by_cases hbz : bad = 0
  · subst hbz
    have R := Lib.hid (F.out.1 rfl)
    clear F
    go_wp2
    go_ret2
    exact R.out
  · have hd : (bad != 0) = true := by simpa using hbz
    have R := Lib.hid (fun n => enc_drew n hbz (F.out.2 hbz))
    clear F
    go_wp2_with fail
    go_quiet (fail)
    go_wp2
    go_ret2
    exact R.out _
set_option maxHeartbeats 2000000 in
theorem rencode_111x (lo hi tag : Nat) (cs : Array Value) (m : Nat → F) (w : World) (hm : RMgAt w lo hi cs m) (h0 : m 0 = .num 1 111) (ht : isType 111) (L : List Q3) (e12 : m 12 = .qids L) (hgt : 16 < L.length) :
    Calls Tryd.prog 11 #[.agg cs] w (Enc5Step w 111 tag (fieldsOf m (named 111))) := by
  have a0 := hm.lies (.num 1, 0) (by decide)
  simp only [h0] at a0
  have a12 := hm.lies (.qids, 12) (by decide)
  simp only [e12] at a12
  obtain ⟨x12, b12, A12, c12, rfl, _⟩ := a12
  have hE : encErr 111 (fieldsOf m (named 111)) = 3 := by
    show (if isType 111 then (if fErr (m 12) = 0 then 0 else fErr (m 12)) else 2) = 3
    rw [if_pos ht, e12]
    have h3 : fErr (.qids L) = 3 := if_pos hgt
    rw [h3]
    rfl
  have R : Hid (Enc5Step w 111 tag (fieldsOf m (named 111)) (.returned (.tuple #[.slice none 0 0, .int .i64 3])) (w.alloc (.cells cs 46))) := Lib.hid (.inr ⟨by rw [hE]; decide, by rw [hE], (Below.refl _ _).alloc (Nat.le_refl _) _⟩)
  have hdA : decide ((16 : Int) < (L.length : Int)) = true := decide_eq_true (by omega)
  have KN := Lib.hid (fun (W : World) => refknown_any 111 W)
  have hk1 : decide (isType 111) = true := decide_eq_true ht
  rw [hk1] at KN
  have d0 : (w.alloc (.cells cs 46)).cell? ⟨w.heap.size, 0, none⟩ = some (.int .u8 ((111 : Nat) : Int)) := ((Has.new w 46 cs).cell 0).trans a0
  have d12 : (w.alloc (.cells cs 46)).cell? ⟨w.heap.size, 12, none⟩ = _ := ((Has.new w 46 cs).cell 12).trans b12
  clear hm hE hgt
  go_enter Tryd.func11, Tryd.ntmps11
  go_wp2_with fail
  refine (KN.out _).mono ?_
  rintro e w' ⟨rfl, rfl⟩
  clear KN
  go_wp2
  go_ret2
  exact R.out
set_option maxHeartbeats 2000000 in
theorem rencode_117 (lo hi tag : Nat) (cs : Array Value) (m : Nat → F) (w : World) (hm : RMgAt w lo hi cs m) (h0 : m 0 = .num 1 117) (h1 : m 1 = .num 2 tag) (hok : ∀ p ∈ places, (m p.2).Ok ∧ (m p.2).Few) (hhi : hi ≤ w.heap.size) (ht : isType 117) (L : List UInt8) (e22 : m 22 = .data L) (hle : L.length ≤ 8192) :
    Calls Tryd.prog 11 #[.agg cs] w (Enc5Step w 117 tag (fieldsOf m (named 117))) := by
  have a22 := hm.lies (.data, 22) (by decide)
  simp only [e22] at a22
  have hsz : (strOf L).size = L.length := strOf_size L
  have hlim : ∀ f ∈ fieldsOf m (named 117), f.Lim := by
    intro f hf
    obtain ⟨p, hp, rfl⟩ := mem_fields hf
    have hk := hm.kind p (named_places' _ p hp)
    have hp' : p = (.data, 22) := by simpa [named, namedOf] using hp
    rcases hp' with rfl
    · simp only [e22]
      exact hle
  have hdA : decide ((8192 : Int) < (L.length : Int)) = false := decide_eq_false (by omega)
  have a0 := hm.lies (.num 1, 0) (by decide)
  simp only [h0] at a0
  have a1 := hm.lies (.num 2, 1) (by decide)
  simp only [h1] at a1
  have b0 := (hok (.num 1, 0) (by decide)).1
  simp only [h0] at b0
  have b1 := (hok (.num 2, 1) (by decide)).1
  simp only [h1] at b1
  have g0 : 117 < 256 ^ 1 := b0.2.2
  have g1 : tag < 256 ^ 2 := b1.2.2
  have u0 : IntKind.u64.wrap ((117 : Nat) : Int) = ((117 : Nat) : Int) := IntWalk.u64_in _ (by omega)
  have u1 : IntKind.u64.wrap (tag : Int) = (tag : Int) := IntWalk.u64_in _ (by omega)
  have hsize := hm.size
  obtain ⟨W, hW⟩ : ∃ W, W = (w.alloc (.cells cs 46)).alloc (.cells #[.slice none 0 0, .int .i64 0] 72) := ⟨_, rfl⟩
  have k0 : Only (fun _ => False) w W := by rw [hW]; exact ((Only.refl _ w).alloc _).alloc _
  have n0 : Has W w.heap.size 46 cs := by rw [hW]; exact (Has.new w _ _).alloc _
  have kO : ROutAt W w.heap.size (w.heap.size + 1) (.slice none 0 0) [] 0 := by
    rw [hW]
    refine ⟨?_, World.ownsRow_nil _ _ _ _, by omega⟩
    have := Has.new (w.alloc (.cells cs 46)) 72 #[.slice none 0 0, .int .i64 0]
    simpa using this
  have hlow : ∀ i, Foot (w.heap.size + 1) (.slice none 0 0) i → i = w.heap.size + 1 := by
    intro i h
    rcases h with h | h
    · exact h
    · cases h
  have X0 := Lib.hid (RC.start (st := ([], 0)) (n := 0) kO (Nat.le_refl _))
  have HM := Lib.hid (fun (w1 : World) (v1 : Value) (st1 : List UInt8 × Int) (n : Nat) (c : RC W w.heap.size (w.heap.size + 1) (.slice none 0 0) st1 n w1 v1) => n0.only c.only (fun h => by have := hlow _ h; omega))
  have hmW := hm.keep (k0.keeps hhi (fun _ _ _ h => h))
  have hWs := k0.size
  have HK := Lib.hid (fun (w1 : World) (v1 : Value) (st1 : List UInt8 × Int) (n : Nat) (c : RC W w.heap.size (w.heap.size + 1) (.slice none 0 0) st1 n w1 v1) => hmW.keep (c.only.keeps (by omega) (fun i _ hi hf => by have := hlow i hf; omega)))
  have HO : Hid (∀ f ∈ fieldsOf m (named 117), f.Ok ∧ f.Few) := Lib.hid (fun f hf => by
    obtain ⟨p, hp, rfl⟩ := mem_fields hf
    exact hok p (named_places' _ p hp))
  have HF := Lib.hid (fun (w3 : World) (bs : List UInt8) (bad : Int) (v3 : Value) hb hd ho k => rtail (w := w) (w3 := w3) (tag := tag) (bs := bs) (bad := bad) (v3 := v3) ht hb hd hlim ho k)
  have KB : Hid (∀ w3, Only (Foot (w.heap.size + 1) (.slice none 0 0)) W w3 → Below w.heap.size w w3) := Lib.hid (fun w3 f => ((k0.mono (fun _ _ h => h.elim)).trans f (fun _ _ h => h)).below (Nat.le_refl _) (fun i hi h => by have := hlow i h; omega))
  have KN := Lib.hid (fun (W : World) => refknown_any 117 W)
  have hk1 : decide (isType 117) = true := decide_eq_true ht
  rw [hk1] at KN
  have d0b : W.cell? ⟨w.heap.size, 0, none⟩ = some (.int .u8 ((117 : Nat) : Int)) := (n0.cell 0).trans a0
  rw [hW] at d0b
  have HW := Lib.hid hW.symm
  have d0 : (w.alloc (.cells cs 46)).cell? ⟨w.heap.size, 0, none⟩ = some (.int .u8 ((117 : Nat) : Int)) := ((Has.new w 46 cs).cell 0).trans a0
  have d22 : (w.alloc (.cells cs 46)).cell? ⟨w.heap.size, 22, none⟩ = _ := ((Has.new w 46 cs).cell 22).trans a22
  clear hm h1 hok hW k0 n0 kO hmW hlow hlim b0 b1
  go_enter Tryd.func11, Tryd.ntmps11
  go_wp2_with fail
  refine (KN.out _).mono ?_
  rintro e w' ⟨rfl, rfl⟩
  clear KN
  go_wp2_with fail
  rw [HW.out]
  clear HW
  refine (rc_num X0.out (by omega) 1 117 (by omega) (by omega)).mono ?_
  rintro e w1 ⟨v1, rfl, y1⟩
  have m1 := HM.out _ _ _ _ y1
  have d1 : w1.cell? ⟨w.heap.size, 1, none⟩ = some (.int .u16 (tag : Int)) := (m1.cell 1).trans a1
  have X1 := Lib.hid y1
  clear y1 m1 X0 d0 d0b d22
  go_wp2_with fail
  refine (rc_num X1.out (by omega) 2 tag (by omega) (by omega)).mono ?_
  rintro e w2 ⟨v2, rfl, y2⟩
  have M2 := Lib.hid (HM.out _ _ _ _ y2)
  have C2 := Lib.hid (rbody_any w.heap.size (w.heap.size + 1) lo hi 117 v2 _ cs m w2 y2.out (by have := y2.len; omega) hhi (HK.out _ _ _ _ y2) h0 HO.out)
  have Y2 := Lib.hid y2
  clear y2 X1 HM HK HO d1
  go_wp2_with (first
    | (refine load_struct Tryd.underlying46 rfl Tryd.refMsgSize w.heap.size cs (.tmp 1) rfl rfl rfl M2.out hsize ?_)
    | fail)
  refine C2.out.mono ?_
  intro e w3 st3
  obtain ⟨v3, rfl, o3, k3, _⟩ := ROutStep.next Y2.out.only Y2.out.own st3
  have e0 : w3.cell? ⟨w.heap.size + 1, 0, none⟩ = some v3 := (o3.has.cell 0).trans rfl
  have e1 : w3.cell? ⟨w.heap.size + 1, 1, none⟩ = some (.int .i64 (rAll (rAdd (rAdd ([], 0) (.num 1 117)) (.num 2 tag)) (fieldsOf m (named 117))).2) := (o3.has.cell 1).trans rfl
  have F3 := HF.out w3 _ _ v3 rfl rfl o3.own (KB.out _ k3)
  obtain ⟨A3, c3, hv3, _⟩ := owns_slice o3.own
  generalize (rAll (rAdd (rAdd ([], 0) (.num 1 117)) (.num 2 tag)) (fieldsOf m (named 117))).2 = bad at e1 F3
  have F := Lib.hid F3
  clear st3 o3 k3 F3 HF KB C2 Y2 M2
  subst hv3
  by_cases hbz : bad = 0
  · subst hbz
    have R := Lib.hid (F.out.1 rfl)
    clear F
    go_wp2
    go_ret2
    exact R.out
  · have hd : (bad != 0) = true := by simpa using hbz
    have R := Lib.hid (fun n => enc_drew n hbz (F.out.2 hbz))
    clear F
    go_wp2_with fail
    go_quiet (fail)
    go_wp2
    go_ret2
    exact R.out _
set_option maxHeartbeats 2000000 in
theorem rencode_117x (lo hi tag : Nat) (cs : Array Value) (m : Nat → F) (w : World) (hm : RMgAt w lo hi cs m) (h0 : m 0 = .num 1 117) (ht : isType 117) (L : List UInt8) (e22 : m 22 = .data L) (hgt : 8192 < L.length) :
    Calls Tryd.prog 11 #[.agg cs] w (Enc5Step w 117 tag (fieldsOf m (named 117))) := by
  have a0 := hm.lies (.num 1, 0) (by decide)
  simp only [h0] at a0
  have a22 := hm.lies (.data, 22) (by decide)
  simp only [e22] at a22
  have hsz : (strOf L).size = L.length := strOf_size L
  have hE : encErr 117 (fieldsOf m (named 117)) = 3 := by
    show (if isType 117 then (if fErr (m 22) = 0 then 0 else fErr (m 22)) else 2) = 3
    rw [if_pos ht, e22]
    have h3 : fErr (.data L) = 3 := if_pos hgt
    rw [h3]
    rfl
  have R : Hid (Enc5Step w 117 tag (fieldsOf m (named 117)) (.returned (.tuple #[.slice none 0 0, .int .i64 3])) (w.alloc (.cells cs 46))) := Lib.hid (.inr ⟨by rw [hE]; decide, by rw [hE], (Below.refl _ _).alloc (Nat.le_refl _) _⟩)
  have hdA : decide ((8192 : Int) < (L.length : Int)) = true := decide_eq_true (by omega)
  have KN := Lib.hid (fun (W : World) => refknown_any 117 W)
  have hk1 : decide (isType 117) = true := decide_eq_true ht
  rw [hk1] at KN
  have d0 : (w.alloc (.cells cs 46)).cell? ⟨w.heap.size, 0, none⟩ = some (.int .u8 ((117 : Nat) : Int)) := ((Has.new w 46 cs).cell 0).trans a0
  have d22 : (w.alloc (.cells cs 46)).cell? ⟨w.heap.size, 22, none⟩ = _ := ((Has.new w 46 cs).cell 22).trans a22
  clear hm hE hgt
  go_enter Tryd.func11, Tryd.ntmps11
  go_wp2_with fail
  refine (KN.out _).mono ?_
  rintro e w' ⟨rfl, rfl⟩
  clear KN
  go_wp2
  go_ret2
  exact R.out
set_option maxHeartbeats 2000000 in
theorem rencode_118 (lo hi tag : Nat) (cs : Array Value) (m : Nat → F) (w : World) (hm : RMgAt w lo hi cs m) (h0 : m 0 = .num 1 118) (h1 : m 1 = .num 2 tag) (hok : ∀ p ∈ places, (m p.2).Ok ∧ (m p.2).Few) (hhi : hi ≤ w.heap.size) (ht : isType 118) (L : List UInt8) (e22 : m 22 = .data L) (hle : L.length ≤ 8192) :
    Calls Tryd.prog 11 #[.agg cs] w (Enc5Step w 118 tag (fieldsOf m (named 118))) := by
  have a22 := hm.lies (.data, 22) (by decide)
  simp only [e22] at a22
  have hsz : (strOf L).size = L.length := strOf_size L
  have hlim : ∀ f ∈ fieldsOf m (named 118), f.Lim := by
    intro f hf
    obtain ⟨p, hp, rfl⟩ := mem_fields hf
    have hk := hm.kind p (named_places' _ p hp)
    have hp' : p = (.num 4, 4) ∨ p = (.num 8, 20) ∨ p = (.data, 22) := by simpa [named, namedOf] using hp
    rcases hp' with rfl | rfl | rfl
    · exact lim_of hk (by decide)
    · exact lim_of hk (by decide)
    · simp only [e22]
      exact hle
  have hdA : decide ((8192 : Int) < (L.length : Int)) = false := decide_eq_false (by omega)
  have a0 := hm.lies (.num 1, 0) (by decide)
  simp only [h0] at a0
  have a1 := hm.lies (.num 2, 1) (by decide)
  simp only [h1] at a1
  have b0 := (hok (.num 1, 0) (by decide)).1
  simp only [h0] at b0
  have b1 := (hok (.num 2, 1) (by decide)).1
  simp only [h1] at b1
  have g0 : 118 < 256 ^ 1 := b0.2.2
  have g1 : tag < 256 ^ 2 := b1.2.2
  have u0 : IntKind.u64.wrap ((118 : Nat) : Int) = ((118 : Nat) : Int) := IntWalk.u64_in _ (by omega)
  have u1 : IntKind.u64.wrap (tag : Int) = (tag : Int) := IntWalk.u64_in _ (by omega)
  have hsize := hm.size
  obtain ⟨W, hW⟩ : ∃ W, W = (w.alloc (.cells cs 46)).alloc (.cells #[.slice none 0 0, .int .i64 0] 72) := ⟨_, rfl⟩
  have k0 : Only (fun _ => False) w W := by rw [hW]; exact ((Only.refl _ w).alloc _).alloc _
  have n0 : Has W w.heap.size 46 cs := by rw [hW]; exact (Has.new w _ _).alloc _
  have kO : ROutAt W w.heap.size (w.heap.size + 1) (.slice none 0 0) [] 0 := by
    rw [hW]
    refine ⟨?_, World.ownsRow_nil _ _ _ _, by omega⟩
    have := Has.new (w.alloc (.cells cs 46)) 72 #[.slice none 0 0, .int .i64 0]
    simpa using this
  have hlow : ∀ i, Foot (w.heap.size + 1) (.slice none 0 0) i → i = w.heap.size + 1 := by
    intro i h
    rcases h with h | h
    · exact h
    · cases h
  have X0 := Lib.hid (RC.start (st := ([], 0)) (n := 0) kO (Nat.le_refl _))
  have HM := Lib.hid (fun (w1 : World) (v1 : Value) (st1 : List UInt8 × Int) (n : Nat) (c : RC W w.heap.size (w.heap.size + 1) (.slice none 0 0) st1 n w1 v1) => n0.only c.only (fun h => by have := hlow _ h; omega))
  have hmW := hm.keep (k0.keeps hhi (fun _ _ _ h => h))
  have hWs := k0.size
  have HK := Lib.hid (fun (w1 : World) (v1 : Value) (st1 : List UInt8 × Int) (n : Nat) (c : RC W w.heap.size (w.heap.size + 1) (.slice none 0 0) st1 n w1 v1) => hmW.keep (c.only.keeps (by omega) (fun i _ hi hf => by have := hlow i hf; omega)))
  have HO : Hid (∀ f ∈ fieldsOf m (named 118), f.Ok ∧ f.Few) := Lib.hid (fun f hf => by
    obtain ⟨p, hp, rfl⟩ := mem_fields hf
    exact hok p (named_places' _ p hp))
  have HF := Lib.hid (fun (w3 : World) (bs : List UInt8) (bad : Int) (v3 : Value) hb hd ho k => rtail (w := w) (w3 := w3) (tag := tag) (bs := bs) (bad := bad) (v3 := v3) ht hb hd hlim ho k)
  have KB : Hid (∀ w3, Only (Foot (w.heap.size + 1) (.slice none 0 0)) W w3 → Below w.heap.size w w3) := Lib.hid (fun w3 f => ((k0.mono (fun _ _ h => h.elim)).trans f (fun _ _ h => h)).below (Nat.le_refl _) (fun i hi h => by have := hlow i h; omega))
  have KN := Lib.hid (fun (W : World) => refknown_any 118 W)
  have hk1 : decide (isType 118) = true := decide_eq_true ht
  rw [hk1] at KN
  have d0b : W.cell? ⟨w.heap.size, 0, none⟩ = some (.int .u8 ((118 : Nat) : Int)) := (n0.cell 0).trans a0
  rw [hW] at d0b
  have HW := Lib.hid hW.symm
  have d0 : (w.alloc (.cells cs 46)).cell? ⟨w.heap.size, 0, none⟩ = some (.int .u8 ((118 : Nat) : Int)) := ((Has.new w 46 cs).cell 0).trans a0
  have d22 : (w.alloc (.cells cs 46)).cell? ⟨w.heap.size, 22, none⟩ = _ := ((Has.new w 46 cs).cell 22).trans a22
  clear hm h1 hok hW k0 n0 kO hmW hlow hlim b0 b1
  go_enter Tryd.func11, Tryd.ntmps11
  go_wp2_with fail
  refine (KN.out _).mono ?_
  rintro e w' ⟨rfl, rfl⟩
  clear KN
  go_wp2_with fail
  rw [HW.out]
  clear HW
  refine (rc_num X0.out (by omega) 1 118 (by omega) (by omega)).mono ?_
  rintro e w1 ⟨v1, rfl, y1⟩
  have m1 := HM.out _ _ _ _ y1
  have d1 : w1.cell? ⟨w.heap.size, 1, none⟩ = some (.int .u16 (tag : Int)) := (m1.cell 1).trans a1
  have X1 := Lib.hid y1
  clear y1 m1 X0 d0 d0b d22
  go_wp2_with fail
  refine (rc_num X1.out (by omega) 2 tag (by omega) (by omega)).mono ?_
  rintro e w2 ⟨v2, rfl, y2⟩
  have M2 := Lib.hid (HM.out _ _ _ _ y2)
  have C2 := Lib.hid (rbody_any w.heap.size (w.heap.size + 1) lo hi 118 v2 _ cs m w2 y2.out (by have := y2.len; omega) hhi (HK.out _ _ _ _ y2) h0 HO.out)
  have Y2 := Lib.hid y2
  clear y2 X1 HM HK HO d1
  go_wp2_with (first
    | (refine load_struct Tryd.underlying46 rfl Tryd.refMsgSize w.heap.size cs (.tmp 1) rfl rfl rfl M2.out hsize ?_)
    | fail)
  refine C2.out.mono ?_
  intro e w3 st3
  obtain ⟨v3, rfl, o3, k3, _⟩ := ROutStep.next Y2.out.only Y2.out.own st3
  have e0 : w3.cell? ⟨w.heap.size + 1, 0, none⟩ = some v3 := (o3.has.cell 0).trans rfl
  have e1 : w3.cell? ⟨w.heap.size + 1, 1, none⟩ = some (.int .i64 (rAll (rAdd (rAdd ([], 0) (.num 1 118)) (.num 2 tag)) (fieldsOf m (named 118))).2) := (o3.has.cell 1).trans rfl
  have F3 := HF.out w3 _ _ v3 rfl rfl o3.own (KB.out _ k3)
  obtain ⟨A3, c3, hv3, _⟩ := owns_slice o3.own
  generalize (rAll (rAdd (rAdd ([], 0) (.num 1 118)) (.num 2 tag)) (fieldsOf m (named 118))).2 = bad at e1 F3
  have F := Lib.hid F3
  clear st3 o3 k3 F3 HF KB C2 Y2 M2
  subst hv3
  by_cases hbz : bad = 0
  · subst hbz
    have R := Lib.hid (F.out.1 rfl)
    clear F
    go_wp2
    go_ret2
    exact R.out
  · have hd : (bad != 0) = true := by simpa using hbz
    have R := Lib.hid (fun n => enc_drew n hbz (F.out.2 hbz))
    clear F
    go_wp2_with fail
    go_quiet (fail)
    go_wp2
    go_ret2
    exact R.out _
set_option maxHeartbeats 2000000 in
theorem rencode_118x (lo hi tag : Nat) (cs : Array Value) (m : Nat → F) (w : World) (hm : RMgAt w lo hi cs m) (h0 : m 0 = .num 1 118) (ht : isType 118) (L : List UInt8) (e22 : m 22 = .data L) (hgt : 8192 < L.length) :
    Calls Tryd.prog 11 #[.agg cs] w (Enc5Step w 118 tag (fieldsOf m (named 118))) := by
  have a0 := hm.lies (.num 1, 0) (by decide)
  simp only [h0] at a0
  have a22 := hm.lies (.data, 22) (by decide)
  simp only [e22] at a22
  have hsz : (strOf L).size = L.length := strOf_size L
  have q4 := fErr_num (hm.kind (.num 4, 4) (by decide))
  have q20 := fErr_num (hm.kind (.num 8, 20) (by decide))
  have hE : encErr 118 (fieldsOf m (named 118)) = 3 := by
    show (if isType 118 then (if fErr (m 4) = 0 then (if fErr (m 20) = 0 then (if fErr (m 22) = 0 then 0 else fErr (m 22)) else fErr (m 20)) else fErr (m 4)) else 2) = 3
    rw [if_pos ht, if_pos q4, if_pos q20, e22]
    have h3 : fErr (.data L) = 3 := if_pos hgt
    rw [h3]
    rfl
  have R : Hid (Enc5Step w 118 tag (fieldsOf m (named 118)) (.returned (.tuple #[.slice none 0 0, .int .i64 3])) (w.alloc (.cells cs 46))) := Lib.hid (.inr ⟨by rw [hE]; decide, by rw [hE], (Below.refl _ _).alloc (Nat.le_refl _) _⟩)
  have hdA : decide ((8192 : Int) < (L.length : Int)) = true := decide_eq_true (by omega)
  have KN := Lib.hid (fun (W : World) => refknown_any 118 W)
  have hk1 : decide (isType 118) = true := decide_eq_true ht
  rw [hk1] at KN
  have d0 : (w.alloc (.cells cs 46)).cell? ⟨w.heap.size, 0, none⟩ = some (.int .u8 ((118 : Nat) : Int)) := ((Has.new w 46 cs).cell 0).trans a0
  have d22 : (w.alloc (.cells cs 46)).cell? ⟨w.heap.size, 22, none⟩ = _ := ((Has.new w 46 cs).cell 22).trans a22
  clear hm hE hgt
  go_enter Tryd.func11, Tryd.ntmps11
  go_wp2_with fail
  refine (KN.out _).mono ?_
  rintro e w' ⟨rfl, rfl⟩
  clear KN
  go_wp2
  go_ret2
  exact R.out
set_option maxHeartbeats 2000000 in
theorem rencode_no (lo hi t tag : Nat) (cs : Array Value) (m : Nat → F) (fs : List F) (w : World) (hm : RMgAt w lo hi cs m) (h0 : m 0 = .num 1 t) (ht : ¬ isType t) :
    Calls Tryd.prog 11 #[.agg cs] w (Enc5Step w t tag fs) := by
  have a0 := hm.lies (.num 1, 0) (by decide)
  simp only [h0] at a0
  have hE : encErr t fs = 2 := if_neg ht
  have R : Hid (Enc5Step w t tag fs (.returned (.tuple #[.slice none 0 0, .int .i64 2])) (w.alloc (.cells cs 46))) := Lib.hid (.inr ⟨by rw [hE]; decide, by rw [hE], (Below.refl _ _).alloc (Nat.le_refl _) _⟩)
  have KN := Lib.hid (fun (W : World) => refknown_any t W)
  have hk1 : decide (isType t) = false := decide_eq_false ht
  rw [hk1] at KN
  have d0 : (w.alloc (.cells cs 46)).cell? ⟨w.heap.size, 0, none⟩ = some (.int .u8 (t : Int)) := ((Has.new w 46 cs).cell 0).trans a0
  clear hm hE
  go_enter Tryd.func11, Tryd.ntmps11
  go_wp2_with fail
  refine (KN.out _).mono ?_
  rintro e w' ⟨rfl, rfl⟩
  clear KN
  go_wp2
  go_ret2
  exact R.out
/-- The second reading's Encode answers as the program's. -/
theorem rencode_any (lo hi t tag : Nat) (cs : Array Value) (m : Nat → F) (w : World) (hm : RMgAt w lo hi cs m) (h0 : m 0 = .num 1 t) (h1 : m 1 = .num 2 tag) (hok : ∀ p ∈ places, (m p.2).Ok ∧ (m p.2).Few) (hhi : hi ≤ w.heap.size) :
    Calls Tryd.prog 11 #[.agg cs] w (Enc5Step w t tag (fieldsOf m (named t))) := by
  by_cases ht : isType t
  · by_cases n110 : t = 110
    · subst n110
      obtain ⟨L, e⟩ := kind_texts (hm.kind (.texts, 11) (by decide))
      by_cases hL : L.length ≤ 16
      · exact rencode_110 lo hi tag cs m w hm h0 h1 hok hhi ht L e hL
      · exact rencode_110x lo hi tag cs m w hm h0 ht L e (by omega)
    by_cases n111 : t = 111
    · subst n111
      obtain ⟨L, e⟩ := kind_qids (hm.kind (.qids, 12) (by decide))
      by_cases hL : L.length ≤ 16
      · exact rencode_111 lo hi tag cs m w hm h0 h1 hok hhi ht L e hL
      · exact rencode_111x lo hi tag cs m w hm h0 ht L e (by omega)
    by_cases n117 : t = 117
    · subst n117
      obtain ⟨L, e⟩ := kind_data (hm.kind (.data, 22) (by decide))
      by_cases hL : L.length ≤ 8192
      · exact rencode_117 lo hi tag cs m w hm h0 h1 hok hhi ht L e hL
      · exact rencode_117x lo hi tag cs m w hm h0 ht L e (by omega)
    by_cases n118 : t = 118
    · subst n118
      obtain ⟨L, e⟩ := kind_data (hm.kind (.data, 22) (by decide))
      by_cases hL : L.length ≤ 8192
      · exact rencode_118 lo hi tag cs m w hm h0 h1 hok hhi ht L e hL
      · exact rencode_118x lo hi tag cs m w hm h0 ht L e (by omega)
    exact rencode_other lo hi t tag cs m w hm h0 h1 hok hhi ht n110 n111 n117 n118
  · exact rencode_no lo hi t tag cs m _ w hm h0 ht
end Go.Proofs.YtepiifbleoimkaaDoor
