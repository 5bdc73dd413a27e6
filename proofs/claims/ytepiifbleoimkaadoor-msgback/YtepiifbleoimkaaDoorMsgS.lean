/-
  What is one has just those bytes; a message that is cut is none, nor is one with more behind it.
-/
import Derived.Test.YtepiifbleoimkaaDoorLaw5Known
import Derived.Test.YtepiifbleoimkaaDoorLaw5Few
namespace Go.Proofs.YtepiifbleoimkaaDoor
open Go.RowKit
set_option maxRecDepth 100000

theorem decM_some {bs : List UInt8} {t tag : Nat} {fs : List F} (h : decM bs = some (t, tag, fs)) :
    ∃ l, namedOf t = some l ∧ bs = msgB t tag fs ∧ fs.map F.kind = l.map (·.1) ∧ fErrL fs = 0 ∧ (∀ f ∈ fs, f.Ok ∧ f.Few) ∧ t < 256 ∧ tag < 65536 := by
  unfold decM at h
  obtain ⟨⟨t', r1⟩, h1, h⟩ := Option.bind_eq_some_iff.1 h
  obtain ⟨⟨tag', r2⟩, h2, h⟩ := Option.bind_eq_some_iff.1 h
  obtain ⟨l, hl, h⟩ := Option.bind_eq_some_iff.1 h
  obtain ⟨⟨fs', r3⟩, h3, h⟩ := Option.bind_eq_some_iff.1 h
  simp only at h h2 hl h3
  split at h
  · rename_i hr
    injection h with h
    injection h with ha h
    injection h with hb hc
    subst ha hb hc hr
    obtain ⟨e1, l1⟩ := tkN_some (by omega) (by omega) h1
    obtain ⟨e2, l2⟩ := tkN_some (by omega) (by omega) h2
    obtain ⟨hstd, _⟩ := named_std hl
    obtain ⟨e3, k3, z3, p3⟩ := tkL_some _ _ _ _ (fun k hk => by obtain ⟨p, hp, rfl⟩ := List.mem_map.1 hk; exact (hstd p hp).2.1) h3
    refine ⟨l, hl, ?_, k3, z3, p3, l1, l2⟩
    rw [List.append_nil] at e3
    rw [msgB, ← e3, ← e2]
    exact e1
  · cases h
theorem decM_more {t tag : Nat} {l : List (K × Nat)} {fs : List F} (r : List UInt8) (hl : namedOf t = some l) (ht : t < 256) (htag : tag < 65536) (hk : fs.map F.kind = l.map (·.1)) (hok : ∀ f ∈ fs, f.Ok) (h0 : fErrL fs = 0) :
    decM (msgB t tag fs ++ r) = if r = [] then some (t, tag, fs) else none := by
  have e := tkL_item r fs hok h0
  rw [hk] at e
  unfold decM msgB
  rw [List.append_assoc, List.append_assoc, tkN_item _ (by omega) (by omega) (by omega), Option.bind_some]
  simp only
  rw [tkN_item _ (by omega) (by omega) (by omega), Option.bind_some, hl, Option.bind_some]
  simp only
  rw [e]
  rfl
theorem decM_cut {t tag : Nat} {l : List (K × Nat)} {fs : List F} (n : Nat) (hl : namedOf t = some l) (ht : t < 256) (htag : tag < 65536) (hk : fs.map F.kind = l.map (·.1)) (hok : ∀ f ∈ fs, f.Ok) (h0 : fErrL fs = 0) (hn : n < (msgB t tag fs).length) :
    decM ((msgB t tag fs).take n) = none := by
  cases hd : decM ((msgB t tag fs).take n) with
  | none => rfl
  | some p =>
    obtain ⟨t', tag', fs'⟩ := p
    obtain ⟨l', hl', e, hk', h0', hok', ht', htag'⟩ := decM_some hd
    have e1 := decM_item hl ht htag hk hok h0
    have e2 := decM_more ((msgB t tag fs).drop n) hl' ht' htag' hk' (fun f hf => (hok' f hf).1) h0'
    rw [← e, List.take_append_drop, e1] at e2
    split at e2
    · rename_i hr
      have : ((msgB t tag fs).drop n).length = 0 := by rw [hr]; rfl
      rw [List.length_drop] at this
      omega
    · cases e2
theorem msgB_len3 (t tag : Nat) (fs : List F) : 3 ≤ (msgB t tag fs).length := by
  simp only [msgB, List.length_append, putB_length]
  omega
theorem fields_kinds {w : World} {lo hi : Nat} {cs : Array Value} {m : Nat → F} {t : Nat} {l : List (K × Nat)} (h : MgAt w lo hi cs m) (hl : namedOf t = some l) : (fieldsOf m l).map F.kind = l.map (·.1) := by
  unfold fieldsOf
  rw [List.map_map]
  apply List.map_congr_left
  intro p hp
  exact h.kind p ((named_mem hl).1 p hp)
/-- All that Few asks, of a message. -/
structure Parts (m : Nat → F) (L : List (List UInt8)) (Q : List Q3) (b ve un an en na : List UInt8) (s : S11) : Prop where
  h11 : m 11 = .texts L
  h12 : m 12 = .qids Q
  h22 : m 22 = .data b
  h3 : m 3 = .text ve
  h7 : m 7 = .text un
  h8 : m 8 = .text an
  h9 : m 9 = .text en
  h19 : m 19 = .text na
  h23 : m 23 = .stat s
theorem parts_of {w : World} {lo hi : Nat} {cs : Array Value} {m : Nat → F} (h : MgAt w lo hi cs m) : ∃ L Q b ve un an en na s, Parts m L Q b ve un an en na s := by
  obtain ⟨L, h11⟩ := kind_texts (h.kind (.texts, 11) (by decide))
  obtain ⟨Q, h12⟩ := kind_qids (h.kind (.qids, 12) (by decide))
  obtain ⟨b, h22⟩ := kind_data (h.kind (.data, 22) (by decide))
  obtain ⟨ve, h3⟩ := kind_text (h.kind (.text, 3) (by decide))
  obtain ⟨un, h7⟩ := kind_text (h.kind (.text, 7) (by decide))
  obtain ⟨an, h8⟩ := kind_text (h.kind (.text, 8) (by decide))
  obtain ⟨en, h9⟩ := kind_text (h.kind (.text, 9) (by decide))
  obtain ⟨na, h19⟩ := kind_text (h.kind (.text, 19) (by decide))
  obtain ⟨s, h23⟩ := kind_stat (h.kind (.stat, 23) (by decide))
  exact ⟨L, Q, b, ve, un, an, en, na, s, h11, h12, h22, h3, h7, h8, h9, h19, h23⟩
theorem head_of {w : World} {lo hi : Nat} {cs : Array Value} {m : Nat → F} (h : MgAt w lo hi cs m) (hok : ∀ p ∈ places, (m p.2).Ok) : ∃ t tag, m 0 = .num 1 t ∧ m 1 = .num 2 tag ∧ t < 256 ∧ tag < 65536 := by
  obtain ⟨t, h0⟩ := kind_num (h.kind (.num 1, 0) (by decide))
  obtain ⟨tag, h1⟩ := kind_num (h.kind (.num 2, 1) (by decide))
  have a := hok (.num 1, 0) (by decide)
  have b := hok (.num 2, 1) (by decide)
  rw [h0] at a
  rw [h1] at b
  exact ⟨t, tag, h0, h1, a.2.2, b.2.2⟩
theorem few_all {w : World} {lo hi : Nat} {cs : Array Value} {m : Nat → F} {L : List (List UInt8)} {Q : List Q3} {b ve un an en na : List UInt8} {s : S11} (h : MgAt w lo hi cs m) (P : Parts m L Q b ve un an en na s) (hf : FewP L Q b ve un an en na s) : ∀ p ∈ places, (m p.2).Few := by
  obtain ⟨f1, f2, f3, f4, f5, f6, f7, f8, f9, f10, f11⟩ := hf
  intro p hp
  have hk := h.kind p hp
  simp only [places, List.mem_cons, List.not_mem_nil, or_false] at hp
  rcases hp with rfl | rfl | rfl | rfl | rfl | rfl | rfl | rfl | rfl | rfl | rfl | rfl | rfl | rfl | rfl | rfl | rfl | rfl | rfl | rfl | rfl | rfl
  · obtain ⟨x, hx⟩ := kind_num hk
    rw [hx]
    exact trivial
  · obtain ⟨x, hx⟩ := kind_num hk
    rw [hx]
    exact trivial
  · obtain ⟨x, hx⟩ := kind_num hk
    rw [hx]
    exact trivial
  · show (m 3).Few
    rw [P.h3]
    show _ ≤ 1000
    omega
  · obtain ⟨x, hx⟩ := kind_num hk
    rw [hx]
    exact trivial
  · obtain ⟨x, hx⟩ := kind_num hk
    rw [hx]
    exact trivial
  · obtain ⟨x, hx⟩ := kind_num hk
    rw [hx]
    exact trivial
  · show (m 7).Few
    rw [P.h7]
    show _ ≤ 1000
    omega
  · show (m 8).Few
    rw [P.h8]
    show _ ≤ 1000
    omega
  · show (m 9).Few
    rw [P.h9]
    show _ ≤ 1000
    omega
  · obtain ⟨x, hx⟩ := kind_num hk
    rw [hx]
    exact trivial
  · show (m 11).Few
    rw [P.h11]
    exact ⟨by omega, fun l hl => by have := f11 l hl; omega⟩
  · show (m 12).Few
    rw [P.h12]
    show _ ≤ 1000
    omega
  · obtain ⟨x, hx⟩ := kind_qid hk
    rw [hx]
    exact trivial
  · obtain ⟨x, hx⟩ := kind_num hk
    rw [hx]
    exact trivial
  · obtain ⟨x, hx⟩ := kind_num hk
    rw [hx]
    exact trivial
  · obtain ⟨x, hx⟩ := kind_num hk
    rw [hx]
    exact trivial
  · show (m 19).Few
    rw [P.h19]
    show _ ≤ 1000
    omega
  · obtain ⟨x, hx⟩ := kind_num hk
    rw [hx]
    exact trivial
  · obtain ⟨x, hx⟩ := kind_num hk
    rw [hx]
    exact trivial
  · show (m 22).Few
    rw [P.h22]
    show _ ≤ 100000
    omega
  · show (m 23).Few
    rw [P.h23]
    obtain ⟨g1, g2, g3, g4⟩ := f10
    exact ⟨by omega, by omega, by omega, by omega⟩

/-- What a walk keeps of a message that came in: its block, what it leads to. -/
structure KM (w W : World) (cs : Array Value) (m : Nat → F) : Prop where
  low : Below w.heap.size w W
  row : Has W w.heap.size 33 cs
  mg : MgAt W 0 w.heap.size cs m
theorem KM.new {w : World} {cs : Array Value} {m : Nat → F} (h : MgAt w 0 w.heap.size cs m) : KM w (w.alloc (.cells cs 33)) cs m :=
  ⟨(Below.refl _ _).alloc (Nat.le_refl _) _, Has.new _ _ _, h.keep (((Only.refl (fun _ => False) w).alloc _).keeps (Nat.le_refl _) (fun _ _ _ h => h))⟩
theorem KM.next {w W W2 : World} {cs : Array Value} {m : Nat → F} (k : KM w W cs m) (b : Below W.heap.size W W2) : KM w W2 cs m :=
  ⟨k.low.trans (b.mono k.low.size), k.row.only (Below.onlyNew b) (fun h => h), k.mg.keep ((Below.onlyNew b).keeps k.low.size (fun _ _ _ h => h))⟩
theorem KM.keep {w W W2 : World} {cs : Array Value} {m : Nat → F} (k : KM w W cs m) (b : Only (fun _ => False) W W2) : KM w W2 cs m := k.next (b.below (Nat.le_refl _) (fun _ _ h => h))
theorem KM.tabs {w W : World} {cs : Array Value} {m : Nat → F} (k : KM w W cs m) (hT : Tabs w) : Tabs W := hT.below k.low
theorem KM.size {w W : World} {cs : Array Value} {m : Nat → F} (k : KM w W cs m) : w.heap.size < W.heap.size := k.row.lt
/-- Encode of it. -/
theorem KM.encode {w W : World} {cs : Array Value} {m : Nat → F} {t tag : Nat} {l : List (K × Nat)} (k : KM w W cs m) (hT : Tabs w) (h0 : m 0 = .num 1 t) (h1 : m 1 = .num 2 tag) (ht : t < 256) (htag : tag < 65536) (hl : (namedOf t).getD [] = l) (hok : ∀ p ∈ places, (m p.2).Ok) (hfew : ∀ p ∈ places, (m p.2).Few) :
    Calls Tryd.prog 10 #[.agg cs] W (Enc5Step W t tag (fieldsOf m l)) := by
  have e0 := k.mg.lies (.num 1, 0) (by decide)
  have e1 := k.mg.lies (.num 2, 1) (by decide)
  rw [h0] at e0
  rw [h1] at e1
  refine encode5_any 0 w.heap.size t tag cs (fieldsOf m l) W e0 e1 (fun l' hl' => ?_) ht htag (k.tabs hT) k.low.size
  rw [hl'] at hl
  have hl2 : l' = l := hl
  subst hl2
  exact k.mg.fs hl' (fun f hf => by
    obtain ⟨p, hp, rfl⟩ := List.mem_map.1 hf
    exact ⟨hok p ((named_mem hl').1 p hp), hfew p ((named_mem hl').1 p hp)⟩)
end Go.Proofs.YtepiifbleoimkaaDoor
