import Derived.Test.YtffmppnlddphaaaDoorLM
namespace Go.Proofs.YtffmppnlddphaaaDoor.Kit
open Go.RowKit Go.Shelf Go.Deep

theorem nodes_path : ∀ (d : Nat) (l : List FT) (path : List Nat) (inD : Bool) (x : LS), x ∈ nodes d l path inD → path.length < x.path.length
  | 0, _, _, _, _, h => by simp [nodes] at h
  | d + 1, l, path, inD, x, h => by
    rw [nodes] at h
    obtain ⟨i, _, hi⟩ := List.mem_flatMap.1 h
    rcases List.mem_cons.1 hi with rfl | hi
    · simp
    · have := nodes_path d _ _ _ x hi
      simp at this
      omega
/-- the way of a fault of the fields is never empty; without one it is -/
theorem FaultIs.way {d : Nat} {fs : List FT} {er : Int} {p : List Nat} {k : Int} (h : FaultIs (0, 0) (nodes d fs [] false) er p k) : (er = 0 → p = []) ∧ (er ≠ 0 → p ≠ []) := by
  rcases h with ⟨a, _⟩ | ⟨_, _, rfl, rfl, _⟩ | ⟨_, L, x, h1, _, h3, rfl, rfl, _⟩
  · exact absurd rfl a
  · exact ⟨fun _ => rfl, fun h => absurd rfl h⟩
  · refine ⟨fun h => absurd h h3, fun _ e => ?_⟩
    have := nodes_path d fs [] false x (h1.subset (by simp))
    rw [e] at this
    simp at this
theorem ints_tail {W W' : World} {vo vo' : Option Addr} {vn vc : Nat} {p : List Nat} (h : W.ownsRow 0 3 1 (.slice vo vn vc) vn (ints p)) (hl : p.length = vn) (hk : ∀ q c, q < W.heap.size → W.heap[q]? = some (.cells c 3) → W'.heap[q]? = W.heap[q]?)
    (hv : ∃ g, vo = some ⟨g, 0, none⟩ ∧ (1 < vn → vo' = some ⟨g, 1, none⟩)) : IntsAt W' vo' p.tail := by
  intro hne
  have hlt : 1 < vn := by
    cases p with
    | nil => simp at hne
    | cons a t => cases t with
      | nil => simp at hne
      | cons b t => simp at hl; omega
  obtain ⟨g, rfl, hv⟩ := hv
  refine ⟨g, 1, hv hlt, fun j hj => ?_⟩
  have hg : W'.heap[g]? = W.heap[g]? := by
    rcases h.2 with ⟨e, _⟩ | ⟨g', cap, cur, e, _, hgg, _⟩
    · cases e
    · cases e
      exact hk g cur (Array.getElem?_eq_some_iff.1 hgg).1 hgg
  have hj' : j + 1 < p.length := by simp at hj; omega
  rw [World.cell?_of_block (w := W) hg, h.cellAt (1 + j) (by omega)]
  simp [ints, Nat.add_comm 1 j, hj']
/-- a fault as CheckField answers it -/
def FieldR (W : World) (N : List LS) (e : Ending) (w' : World) : Prop := ∃ er p vo vc tt, e = .returned (.agg #[.int .i64 er, .slice vo p.tail.length vc, .int .i64 tt]) ∧ Gr W w' ∧ FaultIs (0, 0) N er p tt ∧ IntsAt w' vo p.tail
theorem CutR.field {w w' : World} {N : List LS} {e : Ending} (h : CutR w (FaultQ (0, 0) N) e w') : FieldR w N e w' := by
  obtain ⟨er, vo, vn, vc, tt, A, vo', vn', vc', ⟨p, h1, h2, h3⟩, rfl, hg, hk, h⟩ := h
  rcases h with ⟨h0, rfl, rfl, rfl⟩ | ⟨hp, g, e1, rfl, e3⟩
  · obtain rfl : p = [] := List.eq_nil_of_length_eq_zero (by omega)
    subst h0
    exact ⟨er, [], vo', vc', tt, rfl, hg, h2, fun h => absurd rfl h⟩
  · refine ⟨er, p, vo', vc', tt, ?_, hg, h2, ints_tail h3 h1 hk ⟨g, e1, e3⟩⟩
    rw [List.length_tail, h1]
end Go.Proofs.YtffmppnlddphaaaDoor.Kit
