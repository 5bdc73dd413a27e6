/-
  Package bitmap: Clone of words, Twin.
-/
import Derived.Test.YtaenobgpbphlfaaDoorMapH
import Derived.Test.YtaenobgpbphlfaaDoorDrawn
import Derived.Laws.CopyOwn
import Derived.Lib.SliceRun
namespace Go.Proofs.YtaenobgpbphlfaaDoor
open Go.RowKit Go.Lib
set_option maxRecDepth 100000

/-- Words copied. -/
def WCopy (w : World) (ws : List Nat) (r : Ending) (w' : World) : Prop := ∃ G c, r = .returned (.slice (some ⟨G, 0, none⟩) ws.length c) ∧ WRow w' G c ws ∧ w.heap.size ≤ G ∧ Below w.heap.size w w'
set_option maxHeartbeats 400000 in
theorem clonew_any (gw cw : Nat) (ws : List Nat) (w : World) (hx : WRow w gw cw ws) (h1 : 1 ≤ ws.length) (h2 : ws.length ≤ 1024) : Calls Tryd.prog 23 #[.slice (some ⟨gw, 0, none⟩) ws.length cw] w (WCopy w ws) := by
  have hnil := fun W => Go.Lib.run_eql_slice_nil (P := Tryd.prog) W 46 51 (some ⟨gw, 0, none⟩) ws.length cw 0 0 Tryd.underlying46
  obtain ⟨i0, hi0, hz0, hz1, hz2⟩ := info_parts Tryd.infoU64
  have hown : (w.alloc (.cells #[] 51)).ownsRow w.heap.size 51 1 (.slice (some ⟨w.heap.size, 0, none⟩) 0 0) 0 [] :=
    World.ownsRow_made w #[] 0 (Nat.le_refl _) (by simp [maxLen]) (by simp)
  have hnews : ∀ j u, (u64s ws)[j]? = some u → (w.alloc (.cells #[] 51)).cell? ((⟨gw, 0, none⟩ : Addr).add j) = some u := fun j u hu' => by
    have hc := hx.cells (g := gw) rfl j u hu'
    exact (World.cell?_alloc_lt w _ _ (by rw [addr_block]; exact hx.lt)).trans hc
  have hlen : (u64s ws).length = ws.length * 1 := by rw [u64s_length, Nat.mul_one]
  obtain ⟨n, hn⟩ : ∃ n, n = ws.length := ⟨_, rfl⟩
  rw [← hn] at hnil hlen h1 h2 ⊢
  have H1 := Lib.hid hown
  have H2 := Lib.hid hnews
  have H3 := Lib.hid hlen
  have H4 := Lib.hid (u64s_one ws)
  have HN := Lib.hid hn
  clear hown hnews hx hlen hn
  go_enter Tryd.func23, Tryd.ntmps23
  go_wp2_with (at_builtin; refine wpList_append_own_at _ rfl (.tmp 5) (.tmp 6) 46 rfl w.heap.size 51 i0 (.int .u64 0) 1 8 Tryd.underlying46 hi0 hz0 hz1 hz2 rfl (by decide) _ _ _ rfl H1.out ⟨gw, 0, none⟩ n cw (u64s ws) rfl H3.out H2.out H4.out (by simp [maxLen]; omega) (by omega) (by simp) ?_)
  intro v' w1 h1' h2' _ _
  have h3' : w1.ownsRow w.heap.size 51 1 v' n (u64s ws) := by simpa using h1'
  obtain ⟨G, c, rfl, _, _⟩ := owns_some h3' h1
  have R : Hid (WCopy w ws (.returned (.slice (some ⟨G, 0, none⟩) n c)) w1) := Lib.hid (by
    have hb : Below w.heap.size w w1 := ((Below.refl _ w).alloc (Nat.le_refl _) _).grown h2' (by simp) (by simp [Value.ownBlock])
    have hG := (h3'.lt G rfl).1
    rw [HN.out] at h3' ⊢
    exact ⟨G, c, rfl, owns_base h3' (Nat.zero_le _), hG, hb⟩)
  clear h1' h2' h3'
  go_wp2
  go_ret
  exact R.out

set_option maxHeartbeats 2000000 in
theorem twin_any9 (g gw cw : Nat) (L : List Bool) (w : World) (h : Mp w g gw cw L) : Calls Tryd.prog 14 #[.pointer (some ⟨g, 0, none⟩)] w fun e w' => ∃ v ws, e = .returned v ∧ Born w L ws v w' := by
  obtain ⟨ws, h⟩ := h
  have c0 := h.c0
  have c1 := h.c1
  have hlen := h.bm.len
  have hp := h.pos
  have hm := h.most
  obtain ⟨N, hN⟩ : ∃ N, N = L.length := ⟨_, rfl⟩
  obtain ⟨m, hmm⟩ : ∃ m, m = ws.length := ⟨_, rfl⟩
  have HH := Lib.hid h
  have HL := Lib.hid (And.intro hN hmm)
  rw [← hN] at c0
  rw [← hmm] at c1
  have C : Hid (∀ W, Calm w W → Calls Tryd.prog 23 #[.slice (some ⟨gw, 0, none⟩) m cw] W (WCopy W ws)) := Lib.hid (fun W k => by
    rw [hmm]
    exact clonew_any gw cw ws W (HH.out.row.only k (fun h => h)) (by omega) (by omega))
  have CC : Hid (∀ W W', Calm w W → Below W.heap.size W W' → W'.cell? ⟨g, 0, none⟩ = some (.int .i64 (N : Int)) ∧ W'.cell? ⟨g, 1, none⟩ = some (.slice (some ⟨gw, 0, none⟩) m cw)) := Lib.hid (fun W W' k b => by
    have h1 : Calm w W' := Only.trans k (Only.of_below b) (fun i hi hs => absurd hs (by have := k.size; omega))
    have hh := HH.out.only h1 (fun h => h) (fun h => h)
    have e0 := hh.c0
    have e1 := hh.c1
    rw [← hN] at e0
    rw [← hmm] at e1
    exact ⟨e0, e1⟩)
  have F : Hid (∀ W W' G c, Calm w W → WRow W' G c ws → W.heap.size ≤ G → Below W.heap.size W W' → Born w L ws (.pointer (some ⟨W'.heap.size, 0, none⟩)) (W'.alloc (.cells #[.int .i64 (N : Int), .slice (some ⟨G, 0, none⟩) ws.length c] 49))) := Lib.hid (fun W W' G c k r hG b => by
    have hs := k.size
    have hs2 := b.size
    refine ⟨W'.heap.size, G, c, rfl, ⟨?_, r.only ((Only.refl (fun _ => False) W').alloc _) (fun h => h), HH.out.bm, HH.out.pos, HH.out.most⟩, by omega, by omega, ?_⟩
    · rw [← hN]
      exact Has.new W' 49 _
    · exact ((k.below (Nat.le_refl _) (fun _ _ h => h)).trans (b.mono hs)).alloc (by omega) _)
  clear h hN hmm hlen hp hm
  go_enter Tryd.func14, Tryd.ntmps14
  go_upto_region 1 with fail
  go_region_held3 (fun w' => w'.cell? ⟨g, 0, none⟩ = some (.int .i64 (N : Int)) ∧ w'.cell? ⟨g, 1, none⟩ = some (.slice (some ⟨gw, 0, none⟩) m cw)) (first | exact ⟨c0, c1⟩ | go_keep)
    (first | (go_at_call 23; refine (C.out _ (by exact Calm.drewN _ _)).mono ?_; rintro e w1 ⟨G, c, rfl, r1, g1, b1⟩; obtain ⟨c0, c1⟩ := CC.out _ _ (by exact Calm.drewN _ _) b1; have R := Lib.hid (F.out _ w1 G c (by exact Calm.drewN _ _) r1 g1 b1); clear r1 g1 b1) | fail)
  all_goals go_wp2
  all_goals go_ret
  all_goals exact ⟨_, _, rfl, R.out⟩
end Go.Proofs.YtaenobgpbphlfaaDoor
