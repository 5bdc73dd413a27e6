/-
  The small functions of package num: what each call answers and what it does to memory.
-/
import Derived.Test.YtkhgaolaaiekjaaDoorRows
import Derived.Test.YtkhgaolaaiekjaaDoorMem
import Derived.WalkKit
import Derived.WalkSpells
import Derived.WalkLawsBesides
import Derived.Lib.Hide
import Derived.Laws.IdiomStrings
import Derived.Laws.BytesArg
import Derived.Lib.SlBytesConst
namespace Go.Proofs.YtkhgaolaaiekjaaDoor
open Go.RowKit

theorem Tryd.info8 : (Tryd.prog.info? 5).map (fun i => (i.zero, i.size, i.bytes)) = some (some (.int .u8 0), 1, 1) := by kernel_rfl

def Cloned (w : World) (bs : List UInt8) (e : Ending) (w' : World) : Prop :=
  ∃ v, e = .returned v ∧ w'.ownsRow w.heap.size 5 1 v bs.length (b8s bs) ∧ Below w.heap.size w w'

theorem owns_slice {w : World} {B : Nat} {v : Value} {bs : List UInt8} (h : w.ownsRow B 5 1 v bs.length (b8s bs)) :
    ∃ A c, v = .slice A bs.length c ∧ bs.length ≤ c ∧ c ≤ maxLen ∧ Rd w B w.heap.size A bs := by
  rcases h.2 with ⟨rfl, h0⟩ | ⟨g, cap, cur, rfl, _, _, h1, h2, _⟩
  · refine ⟨none, 0, by rw [h0], by omega, by simp [maxLen], ?_⟩
    intro hn
    omega
  · exact ⟨_, cap, rfl, h1, h2, Rd.of_own h⟩
theorem owns_SlIs {w : World} {B : Nat} {v : Value} {bs : List UInt8} (h : w.ownsRow B 5 1 v bs.length (b8s bs)) : SlIs w B w.heap.size v bs := owns_slice h

/-- The text that bytes make. -/
def strOf (l : List UInt8) : ByteArray := ⟨l.toArray⟩
theorem strOf_toList (l : List UInt8) : (strOf l).data.toList = l := rfl
theorem strOf_list (l : List UInt8) : (strOf l).toList = l := Go.ByteArray.toList_mk l
theorem strOf_inj {l m : List UInt8} (h : strOf l = strOf m) : l = m := by
  have := congrArg (fun s => s.data.toList) h
  simpa [strOf] using this

theorem run_str (v : Value) (bs : List UInt8) (lo hi : Nat) (w : World) (h : SlIs w lo hi v bs) : (convert 25 9 v).run Tryd.prog w = .ok (.string (strOf bs)) w := by
  obtain ⟨A, c, rfl, _, _, hr⟩ := h
  cases A with
  | none =>
    have hb : bs = [] := by
      rcases Nat.eq_zero_or_pos bs.length with h0 | h0
      · exact List.eq_nil_of_length_eq_zero h0
      · obtain ⟨ad, h, _⟩ := hr h0
        cases h
    subst hb
    exact run_convert_bytes_nil w 25 5 Tryd.underlying25 Tryd.underlying5 _ c 9 Tryd.underlying9
  | some ad =>
    refine run_convert_bytes_back w 25 9 5 ad c bs Tryd.underlying25 Tryd.underlying5 Tryd.underlying9 ?_
    intro j hj
    obtain ⟨ad', h, _, _, hc⟩ := hr (by omega)
    injection h with h
    subst h
    exact hc j _ (b8s_get hj)
theorem SlIs.alloc {w : World} {lo hi : Nat} {v : Value} {bs : List UInt8} {o : Obj} (h : SlIs w lo hi v bs) (hh : hi ≤ w.heap.size) : SlIs (w.alloc o) lo hi v bs := by
  obtain ⟨A, c, e, h1, h2, h3⟩ := h
  exact ⟨A, c, e, h1, h2, h3.keep fun p _ hp => World.cell?_alloc_lt w o p (by omega)⟩
theorem SlIs.only {a b : World} {S : Nat → Prop} {lo hi : Nat} {v : Value} {bs : List UInt8} (h : SlIs a lo hi v bs) (k : Only S a b) (hh : hi ≤ a.heap.size) (hn : ∀ i, lo ≤ i → i < hi → ¬ S i) : SlIs b lo hi v bs := by
  obtain ⟨A, c, e, h1, h2, h3⟩ := h
  exact ⟨A, c, e, h1, h2, h3.only k hh hn⟩

/-- A row of bytes that was just laid, whatever its mark. -/
theorem lit_SlIs (w : World) (t : TypeId) (fr : Nat × Nat) (bs : List UInt8) (n : Nat) (hn : n = bs.length) (hm : n ≤ maxLen) :
    SlIs (w.alloc (.cells (b8s bs).toArray t fr)) w.heap.size (w.heap.size + 1) (.slice (some ⟨w.heap.size, 0, none⟩) n n) bs := by
  subst hn
  refine ⟨_, _, rfl, Nat.le_refl _, hm, fun _ => ⟨_, rfl, Nat.le_refl _, Nat.lt_succ_self _, ?_⟩⟩
  have h := World.news_of_block (B := w.heap.size) (heap_alloc_new w (.cells (b8s bs).toArray t fr))
  simpa using h

set_option maxHeartbeats 400000 in
theorem clone_nil (n c : Nat) (w : World) :
    Calls Tryd.prog 50 #[.slice none n c] w (Cloned w []) := by
  have hnil := fun W => Go.Lib.run_eql_slice_nil (P := Tryd.prog) W 25 5 none n c 0 0 Tryd.underlying25
  go_enter Tryd.func50, Tryd.ntmps50
  go_wp2
  go_ret
  exact ⟨_, rfl, World.ownsRow_nil _ _ _ _, Below.refl _ _⟩

set_option maxHeartbeats 400000 in
theorem clone_empty (ad : Addr) (c : Nat) (w : World) :
    Calls Tryd.prog 50 #[.slice (some ad) 0 c] w (Cloned w []) := by
  have hnil := fun W => Go.Lib.run_eql_slice_nil (P := Tryd.prog) W 25 5 (some ad) 0 c 0 0 Tryd.underlying25
  obtain ⟨i0, hi, hz0, hz1, hz2⟩ := info_parts Tryd.info8
  have hown : (w.alloc (.cells #[] 5)).ownsRow w.heap.size 5 1 (.slice (some ⟨w.heap.size, 0, none⟩) 0 0) 0 [] :=
    World.ownsRow_made w #[] 0 (Nat.le_refl _) (by simp [maxLen]) (by simp)
  have H1 := Lib.hid hown
  clear hown
  go_enter Tryd.func50, Tryd.ntmps50
  go_wp2_with (at_builtin; refine wpList_append_own_at _ rfl (.tmp 5) (.tmp 6) 25 rfl w.heap.size 5 i0 (.int .u8 0) 1 1 Tryd.underlying25 hi hz0 hz1 hz2 rfl (by decide) _ _ _ rfl H1.out ad 0 c [] rfl (by simp) (by simp) (by simp) (by simp [maxLen]) (by omega) (by simp) ?_)
  intro v' w1 h1 h2 _ _
  have h1 : w1.ownsRow w.heap.size 5 1 v' 0 [] := by simpa using h1
  have R : Hid (Cloned w [] (.returned v') w1) := ⟨_, rfl, h1, ((Below.refl _ w).alloc (Nat.le_refl _) _).grown h2 (by simp) (by simp [Value.ownBlock])⟩
  clear h1 h2
  go_wp2
  go_ret
  exact R.out

set_option maxHeartbeats 400000 in
theorem clone_some (ad : Addr) (c : Nat) (bs : List UInt8) (w : World) (hr : ∀ j u, (b8s bs)[j]? = some u → w.cell? (ad.add j) = some u) (hl : bs.length ≤ 140737488355328) (hlt : ad.block < w.heap.size) :
    Calls Tryd.prog 50 #[.slice (some ad) bs.length c] w (Cloned w bs) := by
  have hnil := fun W => Go.Lib.run_eql_slice_nil (P := Tryd.prog) W 25 5 (some ad) bs.length c 0 0 Tryd.underlying25
  obtain ⟨i0, hi, hz0, hz1, hz2⟩ := info_parts Tryd.info8
  have hown : (w.alloc (.cells #[] 5)).ownsRow w.heap.size 5 1 (.slice (some ⟨w.heap.size, 0, none⟩) 0 0) 0 [] :=
    World.ownsRow_made w #[] 0 (Nat.le_refl _) (by simp [maxLen]) (by simp)
  have hnews : ∀ j u, (b8s bs)[j]? = some u → (w.alloc (.cells #[] 5)).cell? (ad.add j) = some u := fun j u hu =>
    (World.cell?_alloc_lt w _ _ (by rw [addr_block]; exact hlt)).trans (hr j u hu)
  have hlen := b8s_length bs
  have H1 := Lib.hid hown
  have H2 := Lib.hid hnews
  have H3 := Lib.hid hlen
  clear hown hnews hlen hr
  go_enter Tryd.func50, Tryd.ntmps50
  go_wp2_with (at_builtin; refine wpList_append_own_at _ rfl (.tmp 5) (.tmp 6) 25 rfl w.heap.size 5 i0 (.int .u8 0) 1 1 Tryd.underlying25 hi hz0 hz1 hz2 rfl (by decide) _ _ _ rfl H1.out ad bs.length c (b8s bs) rfl (by rw [H3.out]; omega) H2.out (b8s_one bs) (by simp [maxLen]; omega) (by omega) (by simp) ?_)
  intro v' w1 h1 h2 _ _
  have h1 : w1.ownsRow w.heap.size 5 1 v' bs.length (b8s bs) := by simpa using h1
  have R : Hid (Cloned w bs (.returned v') w1) := ⟨_, rfl, h1, ((Below.refl _ w).alloc (Nat.le_refl _) _).grown h2 (by simp) (by simp [Value.ownBlock])⟩
  clear h1 h2
  go_wp2
  go_ret
  exact R.out

/-- Clone: a row of one's own with these bytes; nothing that was there turns. -/
theorem clone_any (v : Value) (bs : List UInt8) (lo hi : Nat) (w : World) (hv : SlIs w lo hi v bs) (hhi : hi ≤ w.heap.size) (hl : bs.length ≤ 140737488355328) :
    Calls Tryd.prog 50 #[v] w (Cloned w bs) := by
  obtain ⟨A, c, rfl, hc, hm, hr⟩ := hv
  cases A with
  | none =>
    have : bs = [] := by
      rcases Nat.eq_zero_or_pos bs.length with h0 | h0
      · exact List.eq_nil_of_length_eq_zero h0
      · obtain ⟨ad, h, _⟩ := hr h0
        cases h
    subst this
    exact clone_nil _ _ w
  | some ad =>
    by_cases h0 : 0 < bs.length
    · obtain ⟨ad', h, _, h2, h3⟩ := hr h0
      injection h with h
      subst h
      exact clone_some ad c bs w h3 hl (by omega)
    · have : bs = [] := List.eq_nil_of_length_eq_zero (by omega)
      subst this
      exact clone_empty ad c w
end Go.Proofs.YtkhgaolaaiekjaaDoor
