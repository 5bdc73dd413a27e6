/-
  A message without its texts: what its bytes tell, and what the texts beside them; the second reading's texts, whatever the messages.
-/
import Derived.Test.YtepiifbleoimkaaGreatDoorRefMsgH
namespace Go.Proofs.YtepiifbleoimkaaGreatDoor
open Go.RowKit
set_option maxRecDepth 100000

/-- A field without its texts. -/
def S11.bare (s : S11) : S11 := { s with n := [], u := [], g := [], x := [] }
def bareF : F → F
  | .text _ => .text []
  | .texts L => .texts (List.replicate L.length [])
  | .stat s => .stat s.bare
  | f => f
/-- The texts of two fields are the same. -/
def textF : F → F → Prop
  | .text x, .text y => x = y
  | .texts x, .texts y => x = y
  | .qids x, .qids y => x.length = y.length
  | .stat x, .stat y => x.n = y.n ∧ x.u = y.u ∧ x.g = y.g ∧ x.x = y.x
  | _, _ => True
def textL : List F → List F → Prop
  | f :: l, g :: r => textF f g ∧ textL l r
  | _, _ => True
theorem bare_kind (f : F) : (bareF f).kind = f.kind := by cases f <;> rfl
theorem bare_ok {f : F} (h : f.Ok) : (bareF f).Ok := by
  cases f with
  | stat s => exact ⟨h.k, h.d, h.q, h.m, h.a, h.c, h.l⟩
  | num n x => exact h
  | text l => trivial
  | texts L => trivial
  | qid q => exact h
  | qids Q => exact h
  | data b => trivial
theorem bare_few {f : F} (h : f.Few) : (bareF f).Few := by
  cases f with
  | stat s => exact ⟨Nat.zero_le _, Nat.zero_le _, Nat.zero_le _, Nat.zero_le _⟩
  | num n x => trivial
  | text l => exact Nat.zero_le _
  | texts L => exact ⟨by rw [List.length_replicate]; exact h.1, fun l hl => by rw [(List.mem_replicate.1 hl).2]; exact Nat.zero_le _⟩
  | qid q => trivial
  | qids Q => exact h
  | data b => exact h
theorem wrong_nil : wrongOf [] = 0 := by decide
theorem wrong_bare (s : S11) : wrongL s.bare.texts = 0 := wrongL_of (L := s.bare.texts) fun l hl => by
  have h : l ∈ [([] : List UInt8), [], [], []] := hl
  simp only [List.mem_cons, List.not_mem_nil, or_false, or_self] at h
  rw [h]
  exact wrong_nil
theorem bare_inj {f f' : F} (hk : f.kind = f'.kind) (ho : f.Ok) (ho' : f'.Ok) (hf : f.Few) (hf' : f'.Few) {r r' : List UInt8} (h : rB (bareF f) ++ r = rB (bareF f') ++ r') : bareF f = bareF f' ∧ r = r' := by
  cases f with
  | num n x =>
    obtain ⟨y, rfl⟩ := kind_num (f := f') hk.symm
    have h : putB n x ++ r = putB n y ++ r' := h
    have e := congrArg (tkN n) h
    rw [tkN_item _ ho.1 ho.2.1 ho.2.2, tkN_item _ ho'.1 ho'.2.1 ho'.2.2] at e
    injection e with e
    injection e with a b
    exact ⟨by rw [a], b⟩
  | text l =>
    obtain ⟨y, rfl⟩ := kind_text (f := f') hk.symm
    exact ⟨rfl, List.append_cancel_left h⟩
  | texts L =>
    obtain ⟨M, rfl⟩ := kind_texts (f := f') hk.symm
    have h : (putB 2 (List.replicate L.length ([] : List UInt8)).length ++ textsB (List.replicate L.length [])) ++ r = (putB 2 (List.replicate M.length ([] : List UInt8)).length ++ textsB (List.replicate M.length [])) ++ r' := h
    rw [List.length_replicate, List.length_replicate, List.append_assoc, List.append_assoc] at h
    have e := congrArg (tkN 2) h
    have h1 : L.length ≤ 1000 := hf.1
    have h2 : M.length ≤ 1000 := hf'.1
    rw [tkN_item _ (by omega) (by omega) (by omega), tkN_item _ (by omega) (by omega) (by omega)] at e
    injection e with e
    injection e with a b
    rw [a] at b
    exact ⟨by show F.texts _ = F.texts _; rw [a], List.append_cancel_left b⟩
  | qid q =>
    obtain ⟨y, rfl⟩ := kind_qid (f := f') hk.symm
    have h : qidB q ++ r = qidB y ++ r' := h
    have e := congrArg tkQ h
    rw [tkQ_item _ ho, tkQ_item _ ho'] at e
    injection e with e
    injection e with a b
    exact ⟨by rw [a], b⟩
  | qids Q =>
    obtain ⟨R, rfl⟩ := kind_qids (f := f') hk.symm
    have h : (putB 2 Q.length ++ qidsB Q) ++ r = (putB 2 R.length ++ qidsB R) ++ r' := h
    rw [List.append_assoc, List.append_assoc] at h
    have e := congrArg (tkN 2) h
    have h1 : Q.length ≤ 1000 := hf
    have h2 : R.length ≤ 1000 := hf'
    rw [tkN_item _ (by omega) (by omega) (by omega), tkN_item _ (by omega) (by omega) (by omega)] at e
    injection e with e
    injection e with a b
    have e2 : tkMany tkQ Q.length (Q.flatMap qidB ++ r) = tkMany tkQ R.length (R.flatMap qidB ++ r') := by rw [a]; exact congrArg _ b
    rw [tkMany_item r Q (fun x hx r => tkQ_item r (ho x hx)), tkMany_item r' R (fun x hx r => tkQ_item r (ho' x hx))] at e2
    injection e2 with e2
    injection e2 with c d
    exact ⟨by rw [c], d⟩
  | data b =>
    obtain ⟨y, rfl⟩ := kind_data (f := f') hk.symm
    have h : (putB 4 b.length ++ b) ++ r = (putB 4 y.length ++ y) ++ r' := h
    rw [List.append_assoc, List.append_assoc] at h
    have e := congrArg (tkN 4) h
    have h1 : b.length ≤ 100000 := hf
    have h2 : y.length ≤ 100000 := hf'
    rw [tkN_item _ (by omega) (by omega) (by omega), tkN_item _ (by omega) (by omega) (by omega)] at e
    injection e with e
    injection e with a b
    obtain ⟨c, d⟩ := List.append_inj b a
    exact ⟨by rw [c], d⟩
  | stat s =>
    obtain ⟨y, rfl⟩ := kind_stat (f := f') hk.symm
    have e1 : rB (bareF (.stat s)) = fB (.stat s.bare) := rB_ok (f := .stat s.bare) (wrong_bare s)
    have e2 : rB (bareF (.stat y)) = fB (.stat y.bare) := rB_ok (f := .stat y.bare) (wrong_bare y)
    rw [e1, e2] at h
    have e : tkF (F.stat s.bare).kind (fB (.stat s.bare) ++ r) = tkF (F.stat y.bare).kind (fB (.stat y.bare) ++ r') := congrArg (tkF .stat) h
    rw [tkF_item (f := .stat s.bare) r (bare_ok (f := .stat s) ho) (wrong_bare s), tkF_item (f := .stat y.bare) r' (bare_ok (f := .stat y) ho') (wrong_bare y)] at e
    injection e with e
    injection e with a b
    exact ⟨a, b⟩
theorem bareL_inj : ∀ (l l' : List F), l.map F.kind = l'.map F.kind → (∀ f ∈ l, f.Ok ∧ f.Few) → (∀ f ∈ l', f.Ok ∧ f.Few) → (l.map bareF).flatMap rB = (l'.map bareF).flatMap rB → l.map bareF = l'.map bareF
  | [], [], _, _, _, _ => rfl
  | [], _ :: _, h, _, _, _ => by cases h
  | _ :: _, [], h, _, _, _ => by cases h
  | f :: l, g :: r, hk, ho, ho', h => by
    rw [List.map_cons, List.map_cons] at hk
    injection hk with k1 k2
    rw [List.map_cons, List.map_cons, List.flatMap_cons, List.flatMap_cons] at h
    obtain ⟨o1, f1⟩ := ho f (List.mem_cons_self ..)
    obtain ⟨o2, f2⟩ := ho' g (List.mem_cons_self ..)
    obtain ⟨a, b⟩ := bare_inj k1 o1 o2 f1 f2 h
    rw [List.map_cons, List.map_cons, a, bareL_inj l r k2 (fun x hx => ho x (List.mem_cons_of_mem _ hx)) (fun x hx => ho' x (List.mem_cons_of_mem _ hx)) b]
theorem of_bare {f g : F} (h : bareF f = bareF g) (ht : textF f g) : f = g := by
  have hk : f.kind = g.kind := by rw [← bare_kind f, h, bare_kind]
  cases f with
  | num n x =>
    obtain ⟨y, rfl⟩ := kind_num (f := g) hk.symm
    exact h
  | text l =>
    obtain ⟨y, rfl⟩ := kind_text (f := g) hk.symm
    exact congrArg F.text ht
  | texts L =>
    obtain ⟨M, rfl⟩ := kind_texts (f := g) hk.symm
    exact congrArg F.texts ht
  | qid q =>
    obtain ⟨y, rfl⟩ := kind_qid (f := g) hk.symm
    exact h
  | qids Q =>
    obtain ⟨R, rfl⟩ := kind_qids (f := g) hk.symm
    exact h
  | data b =>
    obtain ⟨y, rfl⟩ := kind_data (f := g) hk.symm
    exact h
  | stat s =>
    obtain ⟨y, rfl⟩ := kind_stat (f := g) hk.symm
    have hb : s.bare = y.bare := by injection h
    obtain ⟨t1, t2, t3, t4⟩ := ht
    obtain ⟨b1, b2, b3, b4, b5, b6, b7, _⟩ := S11.eq_iff.1 hb
    exact congrArg F.stat (S11.eq_iff.2 ⟨b1, b2, b3, b4, b5, b6, b7, t1, t2, t3, t4⟩)
theorem textF_refl (f : F) : textF f f := by cases f <;> simp [textF]
theorem textL_refl : ∀ l, textL l l
  | [] => trivial
  | f :: l => ⟨textF_refl f, textL_refl l⟩
theorem ofL_bare : ∀ (l r : List F), l.map bareF = r.map bareF → textL l r → l = r
  | [], [], _, _ => rfl
  | [], _ :: _, h, _ => by cases h
  | _ :: _, [], h, _ => by cases h
  | f :: l, g :: r, h, ht => by
    rw [List.map_cons, List.map_cons] at h
    injection h with a b
    rw [of_bare a ht.1, ofL_bare l r b ht.2]
theorem rAll_flat (fs : List F) : ∀ (st : List UInt8 × Int), (rAll st fs).1 = st.1 ++ fs.flatMap rB := by
  induction fs with
  | nil => intro st; simp [rAll]
  | cons f r ih =>
    intro st
    show (rAll (rAdd st f) r).1 = _
    rw [ih, List.flatMap_cons]
    show (st.1 ++ rB f) ++ _ = _
    rw [List.append_assoc]
/-- The message without its texts. -/
def bareM (m : Nat → F) (i : Nat) : F := bareF (m i)
theorem fields_bare (m : Nat → F) (l : List (K × Nat)) : fieldsOf (bareM m) l = (fieldsOf m l).map bareF := by simp [fieldsOf, bareM, Function.comp_def]
/-- What the second reading asks is that the fields are the same. -/
theorem same_iff {m m' : Nat → F} {l : List (K × Nat)} (hk : ∀ p ∈ l, (m p.2).kind = (m' p.2).kind) (ho : ∀ p ∈ l, (m p.2).Ok ∧ (m p.2).Few) (ho' : ∀ p ∈ l, (m' p.2).Ok ∧ (m' p.2).Few) :
    ((rAll ([], 0) (fieldsOf (bareM m) l)).1 = (rAll ([], 0) (fieldsOf (bareM m') l)).1 ∧ textL (fieldsOf m l) (fieldsOf m' l)) ↔ fieldsOf m l = fieldsOf m' l := by
  rw [rAll_flat, rAll_flat, fields_bare, fields_bare]
  constructor
  · rintro ⟨h, ht⟩
    have h : ((fieldsOf m l).map bareF).flatMap rB = ((fieldsOf m' l).map bareF).flatMap rB := by simpa using h
    refine ofL_bare _ _ (bareL_inj _ _ ?_ ?_ ?_ h) ht
    · simp only [fieldsOf, List.map_map]
      exact List.map_congr_left hk
    · intro f hf
      obtain ⟨p, hp, rfl⟩ := mem_fields hf
      exact ho p hp
    · intro f hf
      obtain ⟨p, hp, rfl⟩ := mem_fields hf
      exact ho' p hp
  · intro h
    rw [h]
    exact ⟨rfl, textL_refl _⟩

theorem rtexts_any (lo hi t : Nat) (ca cb : Array Value) (m m' : Nat → F) (w : World) (hhi : hi ≤ w.heap.size) (hm : RMgAt w lo hi ca m) (hm' : RMgAt w lo hi cb m') (h0 : m 0 = .num 1 t) (hfew : ∀ p ∈ places, (m p.2).Few) (ht : isType t) :
    Calls Tryz.prog 24 #[.agg ca, .agg cb] w (Tells w (textL (fieldsOf m (named t)) (fieldsOf m' (named t)))) := by
  have c0 := hm.lies (.num 1, 0) (by decide)
  simp only [h0] at c0
  rcases isType_cases ht with rfl | rfl | rfl | rfl | rfl | rfl | rfl | rfl | rfl | rfl | rfl | rfl | rfl | rfl | rfl | rfl | rfl | rfl | rfl | rfl | rfl | rfl | rfl | rfl | rfl | rfl | rfl
  · obtain ⟨x2, e2⟩ := kind_num (hm.kind (.num 4, 2) (by decide))
    obtain ⟨y2, f2⟩ := kind_num (hm'.kind (.num 4, 2) (by decide))
    simp only at e2 f2
    obtain ⟨x3, e3⟩ := kind_text (hm.kind (.text, 3) (by decide))
    obtain ⟨y3, f3⟩ := kind_text (hm'.kind (.text, 3) (by decide))
    simp only at e3 f3
    have a3 := hm.lies (.text, 3) (by decide)
    have b3 := hm'.lies (.text, 3) (by decide)
    simp only [e3] at a3
    simp only [f3] at b3
    show Calls Tryz.prog 24 _ w (Tells w (textL [m 2, m 3] [m' 2, m' 3]))
    rw [e2, f2, e3, f3]
    exact (rtexts_100 ca cb w c0 x3 y3 a3 b3).mono fun e w' h => h.of (by simp [textL, textF])
  · obtain ⟨x2, e2⟩ := kind_num (hm.kind (.num 4, 2) (by decide))
    obtain ⟨y2, f2⟩ := kind_num (hm'.kind (.num 4, 2) (by decide))
    simp only at e2 f2
    obtain ⟨x3, e3⟩ := kind_text (hm.kind (.text, 3) (by decide))
    obtain ⟨y3, f3⟩ := kind_text (hm'.kind (.text, 3) (by decide))
    simp only at e3 f3
    have a3 := hm.lies (.text, 3) (by decide)
    have b3 := hm'.lies (.text, 3) (by decide)
    simp only [e3] at a3
    simp only [f3] at b3
    show Calls Tryz.prog 24 _ w (Tells w (textL [m 2, m 3] [m' 2, m' 3]))
    rw [e2, f2, e3, f3]
    exact (rtexts_101 ca cb w c0 x3 y3 a3 b3).mono fun e w' h => h.of (by simp [textL, textF])
  · obtain ⟨x5, e5⟩ := kind_num (hm.kind (.num 4, 5) (by decide))
    obtain ⟨y5, f5⟩ := kind_num (hm'.kind (.num 4, 5) (by decide))
    simp only at e5 f5
    obtain ⟨x7, e7⟩ := kind_text (hm.kind (.text, 7) (by decide))
    obtain ⟨y7, f7⟩ := kind_text (hm'.kind (.text, 7) (by decide))
    simp only at e7 f7
    have a7 := hm.lies (.text, 7) (by decide)
    have b7 := hm'.lies (.text, 7) (by decide)
    simp only [e7] at a7
    simp only [f7] at b7
    obtain ⟨x8, e8⟩ := kind_text (hm.kind (.text, 8) (by decide))
    obtain ⟨y8, f8⟩ := kind_text (hm'.kind (.text, 8) (by decide))
    simp only at e8 f8
    have a8 := hm.lies (.text, 8) (by decide)
    have b8 := hm'.lies (.text, 8) (by decide)
    simp only [e8] at a8
    simp only [f8] at b8
    show Calls Tryz.prog 24 _ w (Tells w (textL [m 5, m 7, m 8] [m' 5, m' 7, m' 8]))
    rw [e5, f5, e7, f7, e8, f8]
    exact (rtexts_102 ca cb w c0 x7 y7 a7 b7 x8 y8 a8 b8).mono fun e w' h => h.of (by simp [textL, textF])
  · obtain ⟨x13, e13⟩ := kind_qid (hm.kind (.qid, 13) (by decide))
    obtain ⟨y13, f13⟩ := kind_qid (hm'.kind (.qid, 13) (by decide))
    simp only at e13 f13
    show Calls Tryz.prog 24 _ w (Tells w (textL [m 13] [m' 13]))
    rw [e13, f13]
    exact (rtexts_no ca cb w 103 c0 (by decide) (by decide) (by decide) (by decide) (by decide) (by decide) (by decide) (by decide) (by decide) (by decide)).mono fun e w' h => h.of (by simp [textL, textF])
  · obtain ⟨x4, e4⟩ := kind_num (hm.kind (.num 4, 4) (by decide))
    obtain ⟨y4, f4⟩ := kind_num (hm'.kind (.num 4, 4) (by decide))
    simp only at e4 f4
    obtain ⟨x5, e5⟩ := kind_num (hm.kind (.num 4, 5) (by decide))
    obtain ⟨y5, f5⟩ := kind_num (hm'.kind (.num 4, 5) (by decide))
    simp only at e5 f5
    obtain ⟨x7, e7⟩ := kind_text (hm.kind (.text, 7) (by decide))
    obtain ⟨y7, f7⟩ := kind_text (hm'.kind (.text, 7) (by decide))
    simp only at e7 f7
    have a7 := hm.lies (.text, 7) (by decide)
    have b7 := hm'.lies (.text, 7) (by decide)
    simp only [e7] at a7
    simp only [f7] at b7
    obtain ⟨x8, e8⟩ := kind_text (hm.kind (.text, 8) (by decide))
    obtain ⟨y8, f8⟩ := kind_text (hm'.kind (.text, 8) (by decide))
    simp only at e8 f8
    have a8 := hm.lies (.text, 8) (by decide)
    have b8 := hm'.lies (.text, 8) (by decide)
    simp only [e8] at a8
    simp only [f8] at b8
    show Calls Tryz.prog 24 _ w (Tells w (textL [m 4, m 5, m 7, m 8] [m' 4, m' 5, m' 7, m' 8]))
    rw [e4, f4, e5, f5, e7, f7, e8, f8]
    exact (rtexts_104 ca cb w c0 x7 y7 a7 b7 x8 y8 a8 b8).mono fun e w' h => h.of (by simp [textL, textF])
  · obtain ⟨x13, e13⟩ := kind_qid (hm.kind (.qid, 13) (by decide))
    obtain ⟨y13, f13⟩ := kind_qid (hm'.kind (.qid, 13) (by decide))
    simp only at e13 f13
    show Calls Tryz.prog 24 _ w (Tells w (textL [m 13] [m' 13]))
    rw [e13, f13]
    exact (rtexts_no ca cb w 105 c0 (by decide) (by decide) (by decide) (by decide) (by decide) (by decide) (by decide) (by decide) (by decide) (by decide)).mono fun e w' h => h.of (by simp [textL, textF])
  · obtain ⟨x9, e9⟩ := kind_text (hm.kind (.text, 9) (by decide))
    obtain ⟨y9, f9⟩ := kind_text (hm'.kind (.text, 9) (by decide))
    simp only at e9 f9
    have a9 := hm.lies (.text, 9) (by decide)
    have b9 := hm'.lies (.text, 9) (by decide)
    simp only [e9] at a9
    simp only [f9] at b9
    show Calls Tryz.prog 24 _ w (Tells w (textL [m 9] [m' 9]))
    rw [e9, f9]
    exact (rtexts_107 ca cb w c0 x9 y9 a9 b9).mono fun e w' h => h.of (by simp [textL, textF])
  · obtain ⟨x10, e10⟩ := kind_num (hm.kind (.num 2, 10) (by decide))
    obtain ⟨y10, f10⟩ := kind_num (hm'.kind (.num 2, 10) (by decide))
    simp only at e10 f10
    show Calls Tryz.prog 24 _ w (Tells w (textL [m 10] [m' 10]))
    rw [e10, f10]
    exact (rtexts_no ca cb w 108 c0 (by decide) (by decide) (by decide) (by decide) (by decide) (by decide) (by decide) (by decide) (by decide) (by decide)).mono fun e w' h => h.of (by simp [textL, textF])
  · show Calls Tryz.prog 24 _ w (Tells w (textL [] []))
    exact (rtexts_no ca cb w 109 c0 (by decide) (by decide) (by decide) (by decide) (by decide) (by decide) (by decide) (by decide) (by decide) (by decide)).mono fun e w' h => h.of (by simp [textL])
  · obtain ⟨x4, e4⟩ := kind_num (hm.kind (.num 4, 4) (by decide))
    obtain ⟨y4, f4⟩ := kind_num (hm'.kind (.num 4, 4) (by decide))
    simp only at e4 f4
    obtain ⟨x6, e6⟩ := kind_num (hm.kind (.num 4, 6) (by decide))
    obtain ⟨y6, f6⟩ := kind_num (hm'.kind (.num 4, 6) (by decide))
    simp only at e6 f6
    obtain ⟨x11, e11⟩ := kind_texts (hm.kind (.texts, 11) (by decide))
    obtain ⟨y11, f11⟩ := kind_texts (hm'.kind (.texts, 11) (by decide))
    simp only at e11 f11
    have a11 := hm.lies (.texts, 11) (by decide)
    have b11 := hm'.lies (.texts, 11) (by decide)
    simp only [e11] at a11
    simp only [f11] at b11
    show Calls Tryz.prog 24 _ w (Tells w (textL [m 4, m 6, m 11] [m' 4, m' 6, m' 11]))
    rw [e4, f4, e6, f6, e11, f11]
    obtain ⟨p11, q11, r11⟩ := a11
    obtain ⟨u11, v11, w11⟩ := b11
    have l11 := hfew (.texts, 11) (by decide)
    simp only [e11] at l11
    exact (rtexts_110 ca cb w c0 lo hi hhi p11 u11 x11 y11 q11 v11 r11 w11 l11.1).mono fun e w' h => h.of (by simp [textL, textF])
  · obtain ⟨x12, e12⟩ := kind_qids (hm.kind (.qids, 12) (by decide))
    obtain ⟨y12, f12⟩ := kind_qids (hm'.kind (.qids, 12) (by decide))
    simp only at e12 f12
    have a12 := hm.lies (.qids, 12) (by decide)
    have b12 := hm'.lies (.qids, 12) (by decide)
    simp only [e12] at a12
    simp only [f12] at b12
    show Calls Tryz.prog 24 _ w (Tells w (textL [m 12] [m' 12]))
    rw [e12, f12]
    obtain ⟨p12, q12, A, k, rfl, _⟩ := a12
    obtain ⟨u12, v12, A2, k2, rfl, _⟩ := b12
    exact (rtexts_111 ca cb w c0 A A2 x12.length y12.length k k2 q12 v12).mono fun e w' h => h.of (by simp [textL, textF])
  · obtain ⟨x4, e4⟩ := kind_num (hm.kind (.num 4, 4) (by decide))
    obtain ⟨y4, f4⟩ := kind_num (hm'.kind (.num 4, 4) (by decide))
    simp only at e4 f4
    obtain ⟨x17, e17⟩ := kind_num (hm.kind (.num 1, 17) (by decide))
    obtain ⟨y17, f17⟩ := kind_num (hm'.kind (.num 1, 17) (by decide))
    simp only at e17 f17
    show Calls Tryz.prog 24 _ w (Tells w (textL [m 4, m 17] [m' 4, m' 17]))
    rw [e4, f4, e17, f17]
    exact (rtexts_no ca cb w 112 c0 (by decide) (by decide) (by decide) (by decide) (by decide) (by decide) (by decide) (by decide) (by decide) (by decide)).mono fun e w' h => h.of (by simp [textL, textF])
  · obtain ⟨x13, e13⟩ := kind_qid (hm.kind (.qid, 13) (by decide))
    obtain ⟨y13, f13⟩ := kind_qid (hm'.kind (.qid, 13) (by decide))
    simp only at e13 f13
    obtain ⟨x16, e16⟩ := kind_num (hm.kind (.num 4, 16) (by decide))
    obtain ⟨y16, f16⟩ := kind_num (hm'.kind (.num 4, 16) (by decide))
    simp only at e16 f16
    show Calls Tryz.prog 24 _ w (Tells w (textL [m 13, m 16] [m' 13, m' 16]))
    rw [e13, f13, e16, f16]
    exact (rtexts_no ca cb w 113 c0 (by decide) (by decide) (by decide) (by decide) (by decide) (by decide) (by decide) (by decide) (by decide) (by decide)).mono fun e w' h => h.of (by simp [textL, textF])
  · obtain ⟨x4, e4⟩ := kind_num (hm.kind (.num 4, 4) (by decide))
    obtain ⟨y4, f4⟩ := kind_num (hm'.kind (.num 4, 4) (by decide))
    simp only at e4 f4
    obtain ⟨x19, e19⟩ := kind_text (hm.kind (.text, 19) (by decide))
    obtain ⟨y19, f19⟩ := kind_text (hm'.kind (.text, 19) (by decide))
    simp only at e19 f19
    have a19 := hm.lies (.text, 19) (by decide)
    have b19 := hm'.lies (.text, 19) (by decide)
    simp only [e19] at a19
    simp only [f19] at b19
    obtain ⟨x18, e18⟩ := kind_num (hm.kind (.num 4, 18) (by decide))
    obtain ⟨y18, f18⟩ := kind_num (hm'.kind (.num 4, 18) (by decide))
    simp only at e18 f18
    obtain ⟨x17, e17⟩ := kind_num (hm.kind (.num 1, 17) (by decide))
    obtain ⟨y17, f17⟩ := kind_num (hm'.kind (.num 1, 17) (by decide))
    simp only at e17 f17
    show Calls Tryz.prog 24 _ w (Tells w (textL [m 4, m 19, m 18, m 17] [m' 4, m' 19, m' 18, m' 17]))
    rw [e4, f4, e19, f19, e18, f18, e17, f17]
    exact (rtexts_114 ca cb w c0 x19 y19 a19 b19).mono fun e w' h => h.of (by simp [textL, textF])
  · obtain ⟨x13, e13⟩ := kind_qid (hm.kind (.qid, 13) (by decide))
    obtain ⟨y13, f13⟩ := kind_qid (hm'.kind (.qid, 13) (by decide))
    simp only at e13 f13
    obtain ⟨x16, e16⟩ := kind_num (hm.kind (.num 4, 16) (by decide))
    obtain ⟨y16, f16⟩ := kind_num (hm'.kind (.num 4, 16) (by decide))
    simp only at e16 f16
    show Calls Tryz.prog 24 _ w (Tells w (textL [m 13, m 16] [m' 13, m' 16]))
    rw [e13, f13, e16, f16]
    exact (rtexts_no ca cb w 115 c0 (by decide) (by decide) (by decide) (by decide) (by decide) (by decide) (by decide) (by decide) (by decide) (by decide)).mono fun e w' h => h.of (by simp [textL, textF])
  · obtain ⟨x4, e4⟩ := kind_num (hm.kind (.num 4, 4) (by decide))
    obtain ⟨y4, f4⟩ := kind_num (hm'.kind (.num 4, 4) (by decide))
    simp only at e4 f4
    obtain ⟨x20, e20⟩ := kind_num (hm.kind (.num 8, 20) (by decide))
    obtain ⟨y20, f20⟩ := kind_num (hm'.kind (.num 8, 20) (by decide))
    simp only at e20 f20
    obtain ⟨x21, e21⟩ := kind_num (hm.kind (.num 4, 21) (by decide))
    obtain ⟨y21, f21⟩ := kind_num (hm'.kind (.num 4, 21) (by decide))
    simp only at e21 f21
    show Calls Tryz.prog 24 _ w (Tells w (textL [m 4, m 20, m 21] [m' 4, m' 20, m' 21]))
    rw [e4, f4, e20, f20, e21, f21]
    exact (rtexts_no ca cb w 116 c0 (by decide) (by decide) (by decide) (by decide) (by decide) (by decide) (by decide) (by decide) (by decide) (by decide)).mono fun e w' h => h.of (by simp [textL, textF])
  · obtain ⟨x22, e22⟩ := kind_data (hm.kind (.data, 22) (by decide))
    obtain ⟨y22, f22⟩ := kind_data (hm'.kind (.data, 22) (by decide))
    simp only at e22 f22
    show Calls Tryz.prog 24 _ w (Tells w (textL [m 22] [m' 22]))
    rw [e22, f22]
    exact (rtexts_no ca cb w 117 c0 (by decide) (by decide) (by decide) (by decide) (by decide) (by decide) (by decide) (by decide) (by decide) (by decide)).mono fun e w' h => h.of (by simp [textL, textF])
  · obtain ⟨x4, e4⟩ := kind_num (hm.kind (.num 4, 4) (by decide))
    obtain ⟨y4, f4⟩ := kind_num (hm'.kind (.num 4, 4) (by decide))
    simp only at e4 f4
    obtain ⟨x20, e20⟩ := kind_num (hm.kind (.num 8, 20) (by decide))
    obtain ⟨y20, f20⟩ := kind_num (hm'.kind (.num 8, 20) (by decide))
    simp only at e20 f20
    obtain ⟨x22, e22⟩ := kind_data (hm.kind (.data, 22) (by decide))
    obtain ⟨y22, f22⟩ := kind_data (hm'.kind (.data, 22) (by decide))
    simp only at e22 f22
    show Calls Tryz.prog 24 _ w (Tells w (textL [m 4, m 20, m 22] [m' 4, m' 20, m' 22]))
    rw [e4, f4, e20, f20, e22, f22]
    exact (rtexts_no ca cb w 118 c0 (by decide) (by decide) (by decide) (by decide) (by decide) (by decide) (by decide) (by decide) (by decide) (by decide)).mono fun e w' h => h.of (by simp [textL, textF])
  · obtain ⟨x21, e21⟩ := kind_num (hm.kind (.num 4, 21) (by decide))
    obtain ⟨y21, f21⟩ := kind_num (hm'.kind (.num 4, 21) (by decide))
    simp only at e21 f21
    show Calls Tryz.prog 24 _ w (Tells w (textL [m 21] [m' 21]))
    rw [e21, f21]
    exact (rtexts_no ca cb w 119 c0 (by decide) (by decide) (by decide) (by decide) (by decide) (by decide) (by decide) (by decide) (by decide) (by decide)).mono fun e w' h => h.of (by simp [textL, textF])
  · obtain ⟨x4, e4⟩ := kind_num (hm.kind (.num 4, 4) (by decide))
    obtain ⟨y4, f4⟩ := kind_num (hm'.kind (.num 4, 4) (by decide))
    simp only at e4 f4
    show Calls Tryz.prog 24 _ w (Tells w (textL [m 4] [m' 4]))
    rw [e4, f4]
    exact (rtexts_no ca cb w 120 c0 (by decide) (by decide) (by decide) (by decide) (by decide) (by decide) (by decide) (by decide) (by decide) (by decide)).mono fun e w' h => h.of (by simp [textL, textF])
  · show Calls Tryz.prog 24 _ w (Tells w (textL [] []))
    exact (rtexts_no ca cb w 121 c0 (by decide) (by decide) (by decide) (by decide) (by decide) (by decide) (by decide) (by decide) (by decide) (by decide)).mono fun e w' h => h.of (by simp [textL])
  · obtain ⟨x4, e4⟩ := kind_num (hm.kind (.num 4, 4) (by decide))
    obtain ⟨y4, f4⟩ := kind_num (hm'.kind (.num 4, 4) (by decide))
    simp only at e4 f4
    show Calls Tryz.prog 24 _ w (Tells w (textL [m 4] [m' 4]))
    rw [e4, f4]
    exact (rtexts_no ca cb w 122 c0 (by decide) (by decide) (by decide) (by decide) (by decide) (by decide) (by decide) (by decide) (by decide) (by decide)).mono fun e w' h => h.of (by simp [textL, textF])
  · show Calls Tryz.prog 24 _ w (Tells w (textL [] []))
    exact (rtexts_no ca cb w 123 c0 (by decide) (by decide) (by decide) (by decide) (by decide) (by decide) (by decide) (by decide) (by decide) (by decide)).mono fun e w' h => h.of (by simp [textL])
  · obtain ⟨x4, e4⟩ := kind_num (hm.kind (.num 4, 4) (by decide))
    obtain ⟨y4, f4⟩ := kind_num (hm'.kind (.num 4, 4) (by decide))
    simp only at e4 f4
    show Calls Tryz.prog 24 _ w (Tells w (textL [m 4] [m' 4]))
    rw [e4, f4]
    exact (rtexts_no ca cb w 124 c0 (by decide) (by decide) (by decide) (by decide) (by decide) (by decide) (by decide) (by decide) (by decide) (by decide)).mono fun e w' h => h.of (by simp [textL, textF])
  · obtain ⟨x23, e23⟩ := kind_stat (hm.kind (.stat, 23) (by decide))
    obtain ⟨y23, f23⟩ := kind_stat (hm'.kind (.stat, 23) (by decide))
    simp only at e23 f23
    have a23 := hm.lies (.stat, 23) (by decide)
    have b23 := hm'.lies (.stat, 23) (by decide)
    simp only [e23] at a23
    simp only [f23] at b23
    show Calls Tryz.prog 24 _ w (Tells w (textL [m 23] [m' 23]))
    rw [e23, f23]
    exact (rtexts_125 ca cb w c0 x23.n y23.n (a23 9 (by decide)) (b23 9 (by decide)) x23.u y23.u (a23 10 (by decide)) (b23 10 (by decide)) x23.g y23.g (a23 11 (by decide)) (b23 11 (by decide)) x23.x y23.x (a23 12 (by decide)) (b23 12 (by decide))).mono fun e w' h => h.of (by simp [textL, textF])
  · obtain ⟨x4, e4⟩ := kind_num (hm.kind (.num 4, 4) (by decide))
    obtain ⟨y4, f4⟩ := kind_num (hm'.kind (.num 4, 4) (by decide))
    simp only at e4 f4
    obtain ⟨x23, e23⟩ := kind_stat (hm.kind (.stat, 23) (by decide))
    obtain ⟨y23, f23⟩ := kind_stat (hm'.kind (.stat, 23) (by decide))
    simp only at e23 f23
    have a23 := hm.lies (.stat, 23) (by decide)
    have b23 := hm'.lies (.stat, 23) (by decide)
    simp only [e23] at a23
    simp only [f23] at b23
    show Calls Tryz.prog 24 _ w (Tells w (textL [m 4, m 23] [m' 4, m' 23]))
    rw [e4, f4, e23, f23]
    exact (rtexts_126 ca cb w c0 x23.n y23.n (a23 9 (by decide)) (b23 9 (by decide)) x23.u y23.u (a23 10 (by decide)) (b23 10 (by decide)) x23.g y23.g (a23 11 (by decide)) (b23 11 (by decide)) x23.x y23.x (a23 12 (by decide)) (b23 12 (by decide))).mono fun e w' h => h.of (by simp [textL, textF])
  · show Calls Tryz.prog 24 _ w (Tells w (textL [] []))
    exact (rtexts_no ca cb w 127 c0 (by decide) (by decide) (by decide) (by decide) (by decide) (by decide) (by decide) (by decide) (by decide) (by decide)).mono fun e w' h => h.of (by simp [textL])
end Go.Proofs.YtepiifbleoimkaaGreatDoor
