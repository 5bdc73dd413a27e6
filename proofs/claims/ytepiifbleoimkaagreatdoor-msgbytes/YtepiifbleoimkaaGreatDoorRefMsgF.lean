/-
  The second reading's body, whatever the message; what it comes to.
-/
import Derived.Test.YtepiifbleoimkaaGreatDoorRefMsgE
namespace Go.Proofs.YtepiifbleoimkaaGreatDoor
open Go.RowKit
set_option maxRecDepth 100000

/-- A message of the second reading in a row of cells: its data is a string. -/
def RFAt (w : World) (lo hi : Nat) (cs : Array Value) (off : Nat) : F → Prop
  | .data b => cs[off]? = some (.string (strOf b))
  | f => FAt w lo hi cs off f
structure RMgAt (w : World) (lo hi : Nat) (cs : Array Value) (m : Nat → F) : Prop where
  size : cs.size = 36
  kind : ∀ p ∈ places, (m p.2).kind = p.1
  lies : ∀ p ∈ places, RFAt w lo hi cs p.2 (m p.2)
theorem RFAt.keep {w w' : World} {lo hi : Nat} {cs : Array Value} {off : Nat} {f : F} (h : RFAt w lo hi cs off f) (hk : ∀ p : Addr, lo ≤ p.block → p.block < hi → w'.cell? p = w.cell? p) : RFAt w' lo hi cs off f := by
  cases f with
  | data b => exact h
  | num n x => exact FAt.keep (f := .num n x) h hk
  | text l => exact FAt.keep (f := .text l) h hk
  | texts L => exact FAt.keep (f := .texts L) h hk
  | qid q => exact FAt.keep (f := .qid q) h hk
  | qids Q => exact FAt.keep (f := .qids Q) h hk
  | stat s => exact FAt.keep (f := .stat s) h hk
theorem RMgAt.keep {w w' : World} {lo hi : Nat} {cs : Array Value} {m : Nat → F} (h : RMgAt w lo hi cs m) (hk : ∀ p : Addr, lo ≤ p.block → p.block < hi → w'.cell? p = w.cell? p) : RMgAt w' lo hi cs m :=
  ⟨h.size, h.kind, fun p hp => (h.lies p hp).keep hk⟩
theorem kind_num {f : F} {n : Nat} (h : f.kind = .num n) : ∃ x, f = .num n x := by
  cases f <;> simp only [F.kind, reduceCtorEq] at h
  rename_i n' x
  injection h with h
  subst h
  exact ⟨x, rfl⟩
theorem kind_text {f : F} (h : f.kind = .text) : ∃ x, f = .text x := by
  cases f <;> simp only [F.kind, reduceCtorEq] at h
  exact ⟨_, rfl⟩
theorem kind_texts {f : F} (h : f.kind = .texts) : ∃ x, f = .texts x := by
  cases f <;> simp only [F.kind, reduceCtorEq] at h
  exact ⟨_, rfl⟩
theorem kind_qid {f : F} (h : f.kind = .qid) : ∃ x, f = .qid x := by
  cases f <;> simp only [F.kind, reduceCtorEq] at h
  exact ⟨_, rfl⟩
theorem kind_qids {f : F} (h : f.kind = .qids) : ∃ x, f = .qids x := by
  cases f <;> simp only [F.kind, reduceCtorEq] at h
  exact ⟨_, rfl⟩
theorem kind_data {f : F} (h : f.kind = .data) : ∃ x, f = .data x := by
  cases f <;> simp only [F.kind, reduceCtorEq] at h
  exact ⟨_, rfl⟩
theorem kind_stat {f : F} (h : f.kind = .stat) : ∃ x, f = .stat x := by
  cases f <;> simp only [F.kind, reduceCtorEq] at h
  exact ⟨_, rfl⟩

/-- The fields that a Type names. -/
def named (t : Nat) : List (K × Nat) := (namedOf t).getD []
/-- Its lists may lie in two ranges of blocks. -/
theorem rbody_two (B g lo hi lo1 hi1 lo2 hi2 t : Nat) (v : Value) (st : List UInt8 × Int) (cs : Array Value) (m : Nat → F) (w : World) (ho : ROutAt w B g v st.1 st.2) (hl : st.1.length ≤ 300000) (hm : RMgAt w lo hi cs m) (hN : RFAt w lo1 hi1 cs 11 (m 11)) (hN1 : hi1 ≤ w.heap.size ∧ ∀ i, lo1 ≤ i → i < hi1 → ¬ Foot g v i) (hQ : RFAt w lo2 hi2 cs 12 (m 12)) (hQ1 : hi2 ≤ w.heap.size ∧ ∀ i, lo2 ≤ i → i < hi2 → ¬ Foot g v i) (h0 : m 0 = .num 1 t)
    (hok : ∀ f ∈ fieldsOf m (named t), f.Ok ∧ f.Few) :
    Calls Tryz.prog 22 #[.pointer (some ⟨g, 0, none⟩), .agg cs] w (ROutStep w B g v (rAll st (fieldsOf m (named t))).1 (rAll st (fieldsOf m (named t))).2) := by
  have c0 := hm.lies (.num 1, 0) (by decide)
  simp only [h0] at c0
  by_cases ht : isType t
  · rcases isType_cases ht with rfl | rfl | rfl | rfl | rfl | rfl | rfl | rfl | rfl | rfl | rfl | rfl | rfl | rfl | rfl | rfl | rfl | rfl | rfl | rfl | rfl | rfl | rfl | rfl | rfl | rfl | rfl
    · obtain ⟨x2, e2⟩ := kind_num (hm.kind (.num 4, 2) (by decide))
      have a2 := hm.lies (.num 4, 2) (by decide)
      have o2 := hok (m 2) (by simp [fieldsOf, named, namedOf])
      simp only at e2 a2
      rw [e2] at a2 o2
      obtain ⟨x3, e3⟩ := kind_text (hm.kind (.text, 3) (by decide))
      have a3 := hm.lies (.text, 3) (by decide)
      have o3 := hok (m 3) (by simp [fieldsOf, named, namedOf])
      simp only at e3 a3
      rw [e3] at a3 o3
      show Calls Tryz.prog 22 _ w (ROutStep w B g v (rAll st [m 2, m 3]).1 (rAll st [m 2, m 3]).2)
      rw [e2, e3]
      exact rbody_100 B g v st cs w ho hl c0 x2 a2 o2.1.2.2 x3 a3 o3.2
    · obtain ⟨x2, e2⟩ := kind_num (hm.kind (.num 4, 2) (by decide))
      have a2 := hm.lies (.num 4, 2) (by decide)
      have o2 := hok (m 2) (by simp [fieldsOf, named, namedOf])
      simp only at e2 a2
      rw [e2] at a2 o2
      obtain ⟨x3, e3⟩ := kind_text (hm.kind (.text, 3) (by decide))
      have a3 := hm.lies (.text, 3) (by decide)
      have o3 := hok (m 3) (by simp [fieldsOf, named, namedOf])
      simp only at e3 a3
      rw [e3] at a3 o3
      show Calls Tryz.prog 22 _ w (ROutStep w B g v (rAll st [m 2, m 3]).1 (rAll st [m 2, m 3]).2)
      rw [e2, e3]
      exact rbody_101 B g v st cs w ho hl c0 x2 a2 o2.1.2.2 x3 a3 o3.2
    · obtain ⟨x5, e5⟩ := kind_num (hm.kind (.num 4, 5) (by decide))
      have a5 := hm.lies (.num 4, 5) (by decide)
      have o5 := hok (m 5) (by simp [fieldsOf, named, namedOf])
      simp only at e5 a5
      rw [e5] at a5 o5
      obtain ⟨x7, e7⟩ := kind_text (hm.kind (.text, 7) (by decide))
      have a7 := hm.lies (.text, 7) (by decide)
      have o7 := hok (m 7) (by simp [fieldsOf, named, namedOf])
      simp only at e7 a7
      rw [e7] at a7 o7
      obtain ⟨x8, e8⟩ := kind_text (hm.kind (.text, 8) (by decide))
      have a8 := hm.lies (.text, 8) (by decide)
      have o8 := hok (m 8) (by simp [fieldsOf, named, namedOf])
      simp only at e8 a8
      rw [e8] at a8 o8
      show Calls Tryz.prog 22 _ w (ROutStep w B g v (rAll st [m 5, m 7, m 8]).1 (rAll st [m 5, m 7, m 8]).2)
      rw [e5, e7, e8]
      exact rbody_102 B g v st cs w ho hl c0 x5 a5 o5.1.2.2 x7 a7 o7.2 x8 a8 o8.2
    · obtain ⟨x13, e13⟩ := kind_qid (hm.kind (.qid, 13) (by decide))
      have a13 := hm.lies (.qid, 13) (by decide)
      have o13 := hok (m 13) (by simp [fieldsOf, named, namedOf])
      simp only at e13 a13
      rw [e13] at a13 o13
      show Calls Tryz.prog 22 _ w (ROutStep w B g v (rAll st [m 13]).1 (rAll st [m 13]).2)
      rw [e13]
      exact rbody_103 B g v st cs w ho hl c0 x13 a13 o13.1
    · obtain ⟨x4, e4⟩ := kind_num (hm.kind (.num 4, 4) (by decide))
      have a4 := hm.lies (.num 4, 4) (by decide)
      have o4 := hok (m 4) (by simp [fieldsOf, named, namedOf])
      simp only at e4 a4
      rw [e4] at a4 o4
      obtain ⟨x5, e5⟩ := kind_num (hm.kind (.num 4, 5) (by decide))
      have a5 := hm.lies (.num 4, 5) (by decide)
      have o5 := hok (m 5) (by simp [fieldsOf, named, namedOf])
      simp only at e5 a5
      rw [e5] at a5 o5
      obtain ⟨x7, e7⟩ := kind_text (hm.kind (.text, 7) (by decide))
      have a7 := hm.lies (.text, 7) (by decide)
      have o7 := hok (m 7) (by simp [fieldsOf, named, namedOf])
      simp only at e7 a7
      rw [e7] at a7 o7
      obtain ⟨x8, e8⟩ := kind_text (hm.kind (.text, 8) (by decide))
      have a8 := hm.lies (.text, 8) (by decide)
      have o8 := hok (m 8) (by simp [fieldsOf, named, namedOf])
      simp only at e8 a8
      rw [e8] at a8 o8
      show Calls Tryz.prog 22 _ w (ROutStep w B g v (rAll st [m 4, m 5, m 7, m 8]).1 (rAll st [m 4, m 5, m 7, m 8]).2)
      rw [e4, e5, e7, e8]
      exact rbody_104 B g v st cs w ho hl c0 x4 a4 o4.1.2.2 x5 a5 o5.1.2.2 x7 a7 o7.2 x8 a8 o8.2
    · obtain ⟨x13, e13⟩ := kind_qid (hm.kind (.qid, 13) (by decide))
      have a13 := hm.lies (.qid, 13) (by decide)
      have o13 := hok (m 13) (by simp [fieldsOf, named, namedOf])
      simp only at e13 a13
      rw [e13] at a13 o13
      show Calls Tryz.prog 22 _ w (ROutStep w B g v (rAll st [m 13]).1 (rAll st [m 13]).2)
      rw [e13]
      exact rbody_105 B g v st cs w ho hl c0 x13 a13 o13.1
    · obtain ⟨x9, e9⟩ := kind_text (hm.kind (.text, 9) (by decide))
      have a9 := hm.lies (.text, 9) (by decide)
      have o9 := hok (m 9) (by simp [fieldsOf, named, namedOf])
      simp only at e9 a9
      rw [e9] at a9 o9
      show Calls Tryz.prog 22 _ w (ROutStep w B g v (rAll st [m 9]).1 (rAll st [m 9]).2)
      rw [e9]
      exact rbody_107 B g v st cs w ho hl c0 x9 a9 o9.2
    · obtain ⟨x10, e10⟩ := kind_num (hm.kind (.num 2, 10) (by decide))
      have a10 := hm.lies (.num 2, 10) (by decide)
      have o10 := hok (m 10) (by simp [fieldsOf, named, namedOf])
      simp only at e10 a10
      rw [e10] at a10 o10
      show Calls Tryz.prog 22 _ w (ROutStep w B g v (rAll st [m 10]).1 (rAll st [m 10]).2)
      rw [e10]
      exact rbody_108 B g v st cs w ho hl c0 x10 a10 o10.1.2.2
    · exact rbody_no B g 109 v st cs w ho c0 (by omega)
    · obtain ⟨x4, e4⟩ := kind_num (hm.kind (.num 4, 4) (by decide))
      have a4 := hm.lies (.num 4, 4) (by decide)
      have o4 := hok (m 4) (by simp [fieldsOf, named, namedOf])
      simp only at e4 a4
      rw [e4] at a4 o4
      obtain ⟨x6, e6⟩ := kind_num (hm.kind (.num 4, 6) (by decide))
      have a6 := hm.lies (.num 4, 6) (by decide)
      have o6 := hok (m 6) (by simp [fieldsOf, named, namedOf])
      simp only at e6 a6
      rw [e6] at a6 o6
      obtain ⟨x11, e11⟩ := kind_texts (hm.kind (.texts, 11) (by decide))
      have a11 := hN
      have o11 := hok (m 11) (by simp [fieldsOf, named, namedOf])
      simp only at e11 a11
      rw [e11] at a11 o11
      obtain ⟨y11, b11, b11'⟩ := a11
      show Calls Tryz.prog 22 _ w (ROutStep w B g v (rAll st [m 4, m 6, m 11]).1 (rAll st [m 4, m 6, m 11]).2)
      rw [e4, e6, e11]
      exact rbody_110 B g lo1 hi1 v st cs w ho hl hN1.1 hN1.2 c0 x4 a4 o4.1.2.2 x6 a6 o6.1.2.2 y11 x11 b11 b11' o11.2.2 o11.2.1
    · obtain ⟨x12, e12⟩ := kind_qids (hm.kind (.qids, 12) (by decide))
      have a12 := hQ
      have o12 := hok (m 12) (by simp [fieldsOf, named, namedOf])
      simp only at e12 a12
      rw [e12] at a12 o12
      obtain ⟨y12, b12, b12'⟩ := a12
      show Calls Tryz.prog 22 _ w (ROutStep w B g v (rAll st [m 12]).1 (rAll st [m 12]).2)
      rw [e12]
      exact rbody_111 B g lo2 hi2 v st cs w ho hl hQ1.1 hQ1.2 c0 y12 x12 b12 b12' o12.1 o12.2
    · obtain ⟨x4, e4⟩ := kind_num (hm.kind (.num 4, 4) (by decide))
      have a4 := hm.lies (.num 4, 4) (by decide)
      have o4 := hok (m 4) (by simp [fieldsOf, named, namedOf])
      simp only at e4 a4
      rw [e4] at a4 o4
      obtain ⟨x17, e17⟩ := kind_num (hm.kind (.num 1, 17) (by decide))
      have a17 := hm.lies (.num 1, 17) (by decide)
      have o17 := hok (m 17) (by simp [fieldsOf, named, namedOf])
      simp only at e17 a17
      rw [e17] at a17 o17
      show Calls Tryz.prog 22 _ w (ROutStep w B g v (rAll st [m 4, m 17]).1 (rAll st [m 4, m 17]).2)
      rw [e4, e17]
      exact rbody_112 B g v st cs w ho hl c0 x4 a4 o4.1.2.2 x17 a17 o17.1.2.2
    · obtain ⟨x13, e13⟩ := kind_qid (hm.kind (.qid, 13) (by decide))
      have a13 := hm.lies (.qid, 13) (by decide)
      have o13 := hok (m 13) (by simp [fieldsOf, named, namedOf])
      simp only at e13 a13
      rw [e13] at a13 o13
      obtain ⟨x16, e16⟩ := kind_num (hm.kind (.num 4, 16) (by decide))
      have a16 := hm.lies (.num 4, 16) (by decide)
      have o16 := hok (m 16) (by simp [fieldsOf, named, namedOf])
      simp only at e16 a16
      rw [e16] at a16 o16
      show Calls Tryz.prog 22 _ w (ROutStep w B g v (rAll st [m 13, m 16]).1 (rAll st [m 13, m 16]).2)
      rw [e13, e16]
      exact rbody_113 B g v st cs w ho hl c0 x13 a13 o13.1 x16 a16 o16.1.2.2
    · obtain ⟨x4, e4⟩ := kind_num (hm.kind (.num 4, 4) (by decide))
      have a4 := hm.lies (.num 4, 4) (by decide)
      have o4 := hok (m 4) (by simp [fieldsOf, named, namedOf])
      simp only at e4 a4
      rw [e4] at a4 o4
      obtain ⟨x19, e19⟩ := kind_text (hm.kind (.text, 19) (by decide))
      have a19 := hm.lies (.text, 19) (by decide)
      have o19 := hok (m 19) (by simp [fieldsOf, named, namedOf])
      simp only at e19 a19
      rw [e19] at a19 o19
      obtain ⟨x18, e18⟩ := kind_num (hm.kind (.num 4, 18) (by decide))
      have a18 := hm.lies (.num 4, 18) (by decide)
      have o18 := hok (m 18) (by simp [fieldsOf, named, namedOf])
      simp only at e18 a18
      rw [e18] at a18 o18
      obtain ⟨x17, e17⟩ := kind_num (hm.kind (.num 1, 17) (by decide))
      have a17 := hm.lies (.num 1, 17) (by decide)
      have o17 := hok (m 17) (by simp [fieldsOf, named, namedOf])
      simp only at e17 a17
      rw [e17] at a17 o17
      show Calls Tryz.prog 22 _ w (ROutStep w B g v (rAll st [m 4, m 19, m 18, m 17]).1 (rAll st [m 4, m 19, m 18, m 17]).2)
      rw [e4, e19, e18, e17]
      exact rbody_114 B g v st cs w ho hl c0 x4 a4 o4.1.2.2 x19 a19 o19.2 x18 a18 o18.1.2.2 x17 a17 o17.1.2.2
    · obtain ⟨x13, e13⟩ := kind_qid (hm.kind (.qid, 13) (by decide))
      have a13 := hm.lies (.qid, 13) (by decide)
      have o13 := hok (m 13) (by simp [fieldsOf, named, namedOf])
      simp only at e13 a13
      rw [e13] at a13 o13
      obtain ⟨x16, e16⟩ := kind_num (hm.kind (.num 4, 16) (by decide))
      have a16 := hm.lies (.num 4, 16) (by decide)
      have o16 := hok (m 16) (by simp [fieldsOf, named, namedOf])
      simp only at e16 a16
      rw [e16] at a16 o16
      show Calls Tryz.prog 22 _ w (ROutStep w B g v (rAll st [m 13, m 16]).1 (rAll st [m 13, m 16]).2)
      rw [e13, e16]
      exact rbody_115 B g v st cs w ho hl c0 x13 a13 o13.1 x16 a16 o16.1.2.2
    · obtain ⟨x4, e4⟩ := kind_num (hm.kind (.num 4, 4) (by decide))
      have a4 := hm.lies (.num 4, 4) (by decide)
      have o4 := hok (m 4) (by simp [fieldsOf, named, namedOf])
      simp only at e4 a4
      rw [e4] at a4 o4
      obtain ⟨x20, e20⟩ := kind_num (hm.kind (.num 8, 20) (by decide))
      have a20 := hm.lies (.num 8, 20) (by decide)
      have o20 := hok (m 20) (by simp [fieldsOf, named, namedOf])
      simp only at e20 a20
      rw [e20] at a20 o20
      obtain ⟨x21, e21⟩ := kind_num (hm.kind (.num 4, 21) (by decide))
      have a21 := hm.lies (.num 4, 21) (by decide)
      have o21 := hok (m 21) (by simp [fieldsOf, named, namedOf])
      simp only at e21 a21
      rw [e21] at a21 o21
      show Calls Tryz.prog 22 _ w (ROutStep w B g v (rAll st [m 4, m 20, m 21]).1 (rAll st [m 4, m 20, m 21]).2)
      rw [e4, e20, e21]
      exact rbody_116 B g v st cs w ho hl c0 x4 a4 o4.1.2.2 x20 a20 o20.1.2.2 x21 a21 o21.1.2.2
    · obtain ⟨x22, e22⟩ := kind_data (hm.kind (.data, 22) (by decide))
      have a22 := hm.lies (.data, 22) (by decide)
      have o22 := hok (m 22) (by simp [fieldsOf, named, namedOf])
      simp only at e22 a22
      rw [e22] at a22 o22
      show Calls Tryz.prog 22 _ w (ROutStep w B g v (rAll st [m 22]).1 (rAll st [m 22]).2)
      rw [e22]
      exact rbody_117 B g v st cs w ho hl c0 x22 a22 o22.2
    · obtain ⟨x4, e4⟩ := kind_num (hm.kind (.num 4, 4) (by decide))
      have a4 := hm.lies (.num 4, 4) (by decide)
      have o4 := hok (m 4) (by simp [fieldsOf, named, namedOf])
      simp only at e4 a4
      rw [e4] at a4 o4
      obtain ⟨x20, e20⟩ := kind_num (hm.kind (.num 8, 20) (by decide))
      have a20 := hm.lies (.num 8, 20) (by decide)
      have o20 := hok (m 20) (by simp [fieldsOf, named, namedOf])
      simp only at e20 a20
      rw [e20] at a20 o20
      obtain ⟨x22, e22⟩ := kind_data (hm.kind (.data, 22) (by decide))
      have a22 := hm.lies (.data, 22) (by decide)
      have o22 := hok (m 22) (by simp [fieldsOf, named, namedOf])
      simp only at e22 a22
      rw [e22] at a22 o22
      show Calls Tryz.prog 22 _ w (ROutStep w B g v (rAll st [m 4, m 20, m 22]).1 (rAll st [m 4, m 20, m 22]).2)
      rw [e4, e20, e22]
      exact rbody_118 B g v st cs w ho hl c0 x4 a4 o4.1.2.2 x20 a20 x22 a22 o22.2
    · obtain ⟨x21, e21⟩ := kind_num (hm.kind (.num 4, 21) (by decide))
      have a21 := hm.lies (.num 4, 21) (by decide)
      have o21 := hok (m 21) (by simp [fieldsOf, named, namedOf])
      simp only at e21 a21
      rw [e21] at a21 o21
      show Calls Tryz.prog 22 _ w (ROutStep w B g v (rAll st [m 21]).1 (rAll st [m 21]).2)
      rw [e21]
      exact rbody_119 B g v st cs w ho hl c0 x21 a21 o21.1.2.2
    · obtain ⟨x4, e4⟩ := kind_num (hm.kind (.num 4, 4) (by decide))
      have a4 := hm.lies (.num 4, 4) (by decide)
      have o4 := hok (m 4) (by simp [fieldsOf, named, namedOf])
      simp only at e4 a4
      rw [e4] at a4 o4
      show Calls Tryz.prog 22 _ w (ROutStep w B g v (rAll st [m 4]).1 (rAll st [m 4]).2)
      rw [e4]
      exact rbody_120 B g v st cs w ho hl c0 x4 a4 o4.1.2.2
    · exact rbody_no B g 121 v st cs w ho c0 (by omega)
    · obtain ⟨x4, e4⟩ := kind_num (hm.kind (.num 4, 4) (by decide))
      have a4 := hm.lies (.num 4, 4) (by decide)
      have o4 := hok (m 4) (by simp [fieldsOf, named, namedOf])
      simp only at e4 a4
      rw [e4] at a4 o4
      show Calls Tryz.prog 22 _ w (ROutStep w B g v (rAll st [m 4]).1 (rAll st [m 4]).2)
      rw [e4]
      exact rbody_122 B g v st cs w ho hl c0 x4 a4 o4.1.2.2
    · exact rbody_no B g 123 v st cs w ho c0 (by omega)
    · obtain ⟨x4, e4⟩ := kind_num (hm.kind (.num 4, 4) (by decide))
      have a4 := hm.lies (.num 4, 4) (by decide)
      have o4 := hok (m 4) (by simp [fieldsOf, named, namedOf])
      simp only at e4 a4
      rw [e4] at a4 o4
      show Calls Tryz.prog 22 _ w (ROutStep w B g v (rAll st [m 4]).1 (rAll st [m 4]).2)
      rw [e4]
      exact rbody_124 B g v st cs w ho hl c0 x4 a4 o4.1.2.2
    · obtain ⟨x23, e23⟩ := kind_stat (hm.kind (.stat, 23) (by decide))
      have a23 := hm.lies (.stat, 23) (by decide)
      have o23 := hok (m 23) (by simp [fieldsOf, named, namedOf])
      simp only at e23 a23
      rw [e23] at a23 o23
      show Calls Tryz.prog 22 _ w (ROutStep w B g v (rAll st [m 23]).1 (rAll st [m 23]).2)
      rw [e23]
      exact rbody_125 B g v st cs w ho hl c0 x23 a23 ⟨o23.1, o23.2⟩
    · obtain ⟨x4, e4⟩ := kind_num (hm.kind (.num 4, 4) (by decide))
      have a4 := hm.lies (.num 4, 4) (by decide)
      have o4 := hok (m 4) (by simp [fieldsOf, named, namedOf])
      simp only at e4 a4
      rw [e4] at a4 o4
      obtain ⟨x23, e23⟩ := kind_stat (hm.kind (.stat, 23) (by decide))
      have a23 := hm.lies (.stat, 23) (by decide)
      have o23 := hok (m 23) (by simp [fieldsOf, named, namedOf])
      simp only at e23 a23
      rw [e23] at a23 o23
      show Calls Tryz.prog 22 _ w (ROutStep w B g v (rAll st [m 4, m 23]).1 (rAll st [m 4, m 23]).2)
      rw [e4, e23]
      exact rbody_126 B g v st cs w ho hl c0 x4 a4 o4.1.2.2 x23 a23 ⟨o23.1, o23.2⟩
    · exact rbody_no B g 127 v st cs w ho c0 (by omega)
  · have hn : named t = [] := by rw [named, namedOf_none ht]; rfl
    rw [hn]
    unfold isType at ht
    exact rbody_no B g t v st cs w ho c0 (by omega)
theorem rbody_any (B g lo hi t : Nat) (v : Value) (st : List UInt8 × Int) (cs : Array Value) (m : Nat → F) (w : World) (ho : ROutAt w B g v st.1 st.2) (hl : st.1.length ≤ 300000) (hhi : hi ≤ B) (hm : RMgAt w lo hi cs m) (h0 : m 0 = .num 1 t)
    (hok : ∀ f ∈ fieldsOf m (named t), f.Ok ∧ f.Few) :
    Calls Tryz.prog 22 #[.pointer (some ⟨g, 0, none⟩), .agg cs] w (ROutStep w B g v (rAll st (fieldsOf m (named t))).1 (rAll st (fieldsOf m (named t))).2) :=
  rbody_two B g lo hi lo hi lo hi t v st cs m w ho hl hm (hm.lies (.texts, 11) (by decide)) ⟨Nat.le_trans hhi ho.sizeW, fun i _ h hf => by have := (ho.foot_lt hf).1; omega⟩ (hm.lies (.qids, 12) (by decide)) ⟨Nat.le_trans hhi ho.sizeW, fun i _ h hf => by have := (ho.foot_lt hf).1; omega⟩ h0 hok

/-- All the fields are within the limits. -/
def F.Lim : F → Prop
  | .texts L => L.length ≤ 16
  | .qids Q => Q.length ≤ 16
  | .data b => b.length ≤ 8192
  | _ => True
theorem rE_lim {f : F} (h : f.Lim) : rE f = fErr f := by
  cases f with
  | texts L => exact (if_neg (by have : L.length ≤ 16 := h; omega)).symm
  | qids L => exact (if_neg (by have : L.length ≤ 16 := h; omega)).symm
  | data L => exact (if_neg (by have : L.length ≤ 8192 := h; omega)).symm
  | num n x => rfl
  | text l => rfl
  | qid q => rfl
  | stat s => rfl
theorem rB_ok {f : F} (h : fErr f = 0) : rB f = fB f := by
  cases f with
  | stat s => exact if_pos h
  | texts L => rfl
  | qids L => rfl
  | data L => rfl
  | num n x => rfl
  | text l => rfl
  | qid q => rfl
theorem rAll_bad (fs : List F) : ∀ (st : List UInt8 × Int), (∀ f ∈ fs, f.Lim) → (rAll st fs).2 = nextBad st.2 (fErrL fs) := by
  induction fs with
  | nil => intro st _; exact (nextBad_zero _).symm
  | cons f r ih =>
    intro st h
    show (rAll (rAdd st f) r).2 = _
    rw [ih _ (fun g hg => h g (List.mem_cons_of_mem _ hg))]
    show nextBad (nextBad st.2 (rE f)) (fErrL r) = nextBad st.2 (if fErr f = 0 then fErrL r else fErr f)
    rw [rE_lim (h f (List.mem_cons_self ..)), nextBad_join]
theorem rAll_bytes (fs : List F) : ∀ (st : List UInt8 × Int), fErrL fs = 0 → (rAll st fs).1 = st.1 ++ fBL fs := by
  induction fs with
  | nil => intro st _; simp [rAll, fBL]
  | cons f r ih =>
    intro st h
    have h' : (if fErr f = 0 then fErrL r else fErr f) = 0 := h
    by_cases hf : fErr f = 0
    · rw [if_pos hf] at h'
      show (rAll (rAdd st f) r).1 = _
      rw [ih _ h']
      show (st.1 ++ rB f) ++ fBL r = st.1 ++ fBL (f :: r)
      rw [rB_ok hf, List.append_assoc]
      rfl
    · rw [if_neg hf] at h'
      exact absurd h' hf
end Go.Proofs.YtepiifbleoimkaaGreatDoor
