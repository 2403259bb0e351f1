/- The table of the ops of plain statements: what the row's condition on it gives a walk; a start that fits; that it reads behind the call as before. -/
import Derived.Test.YtlmgbpbiljnohaaDoorRows
import Derived.Test.YtlmgbpbiljnohaaDoorEmitStmts
import Derived.Test.YtlmgbpbiljnohaaDoorShutG
import Derived.LaidMore
import Derived.OpenShut
import Derived.ChangeVars
import Derived.Stop.Joined
namespace Go.Proofs.YtlmgbpbiljnohaaDoor
open Go.ChangeShapes Go.WideShapes Go.ChangeAt Go.WideMaps Go.WideElems Go.RowKit

abbrev opsName : String := "loop.example/changeringer/impl.plainOps"
theorem gOps : Tryd.prog.globalNamed opsName = some 0 := by kernel_rfl
theorem tOps : (Tryd.prog.globals[0]?).map (·.type) = some 76 := by kernel_rfl

theorem cellsI : Tryd.prog.cellsOf 3 = 1 := by kernel_rfl

/-- What the condition gives: the table's cells. -/
theorem ops_of_laid {W : World} (h : laidMetH Tryd.prog [(opsName, Rows.laid_loop_example_changeringer_impl_plainOps)] W) : Ops W ∧ 0 < W.heap.size := by
  rw [MakeChecks.laidMetH_plain _ _ _ (by kernel_rfl)] at h
  obtain ⟨ps, ⟨g0, t0, cs0, f0, p0, q0, hg0, ht0, hv0, hd0, _, _⟩, _, _⟩ := h
  obtain rfl := Option.some.inj (gOps.symm.trans hg0)
  obtain rfl := Option.some.inj (tOps.symm.trans ht0)
  obtain ⟨xs, m1, rfl, hx1, hlen, hn3, hel⟩ := DataW.trod_array Tryd.underlying76 hd0
  simp only [Prod.mk.injEq, Rows.laid_loop_example_changeringer_impl_plainOps, DataW.agg.injEq] at hx1
  have key : ∀ (j : Nat) (v : Int), j < 12 → (xs.map (·.1))[j]? = some (.lit (.int .i64 v)) → W.cell? ⟨0, j, none⟩ = some (.int .i64 v) := by
    intro j v hj hv
    have h0 := hel j hj
    rw [cellsI, Nat.mul_one] at h0
    rw [List.getElem?_map] at hv
    obtain ⟨x, hx, hxv⟩ := Option.map_eq_some_iff.1 hv
    rw [hx] at h0
    obtain ⟨k, e1, e2, _⟩ := DataW.trod_int Tryd.underlying3 h0
    have hk : k = v := by rw [e2] at hxv; simpa using hxv
    subst hk
    rw [World.var?_cell hg0 hv0]
    have e3 := congrArg (·[0]?) e1
    simpa [List.getElem?_take, List.getElem?_drop] using e3
  rw [← hx1.1] at key
  have k1 := key 1 1 (by omega) rfl
  refine ⟨⟨k1, key 2 2 (by omega) rfl, key 3 3 (by omega) rfl, key 4 4 (by omega) rfl, key 5 5 (by omega) rfl, key 9 10 (by omega) rfl, key 10 11 (by omega) rfl, key 11 12 (by omega) rfl⟩, ?_⟩
  apply Classical.byContradiction
  intro hn
  have : W.heap[0]? = none := Array.getElem?_eq_none (by omega)
  simp [World.cell?, this] at k1

theorem opsRead : Tryd.prog.readableRec 76 = true := by kernel_rfl
theorem opsRow : 76 < Tryd.prog.types.size := of_decide_eq_true (by kernel_rfl)

/-- The table reads behind the call as before. -/
theorem ops_kept {H : Type} {enc : TypeId × Value → H} {W W' : World} {gs : List (DataW H)} {ps : List MemPlace} {sp : Nat → Bool} (h : DataW.TrodVars enc Tryd.prog W (fun _ => true) [opsName] gs ps)
    (hb : Below W.heap.size W W') (hlt : ∀ x ∈ ps, x.block < W.heap.size) (hsp : ∀ x ∈ ps, sp x.block = true) : DataW.TrodVars enc Tryd.prog W' sp [opsName] gs ps := by
  obtain ⟨g, t, cs, fuel, d, p, rfl, h1, h2, h3, h4, rfl⟩ := trodVars_one h
  obtain rfl := Option.some.inj (gOps.symm.trans h1)
  obtain rfl := Option.some.inj (tOps.symm.trans h2)
  have h3' : W'.var? Tryd.prog opsName = some cs := by
    unfold World.var? at h3 ⊢
    rw [h1] at h3 ⊢
    simp only [Option.bind_some] at h3 ⊢
    have hg : 0 < W.heap.size := by
      apply Classical.byContradiction
      intro hn
      have : W.heap[0]? = none := Array.getElem?_eq_none (by omega)
      rw [this] at h3; cases h3
    rw [hb.block 0 hg]; exact h3
  exact trodVars_mk1 h1 h2 h3' (DataW.trod_stays (kids_book laidOut opsRead) (book_sized opsRead) (fun h => by cases h) ⟨opsRow, book_self _⟩ h4 (fun x hx => hb.same (hlt x (by simp [hx]))) (fun x hx => hsp x (by simp [hx])))
end Go.Proofs.YtlmgbpbiljnohaaDoor
