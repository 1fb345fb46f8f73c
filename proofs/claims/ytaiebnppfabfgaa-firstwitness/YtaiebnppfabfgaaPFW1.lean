import Derived.Test.YtaiebnppfabfgaaPFThyToFSame
namespace Go.Proofs.Ytaiebnppfabfgaa
set_option linter.unusedVariables false
set_option maxRecDepth 100000
set_option maxHeartbeats 16000000
open Go.RowKit
theorem heights_no (g : GV) (w : World) (h : GAt 140737488355328 w g) (hpc : g.ps.length <= g.pc) (er at_ : Int) (hE : checkG g (checkF g.ts g.ns) = (er, at_)) (h0 : er ≠ 0) :
  Calls Try.prog 7 #[g.val] w fun e w' => e = .returned (.tuple #[.slice none 0 0, .int .i64 er]) /\ Below w.heap.size w w' := by
 have X0 : Hid ((w.alloc (gBox g)).heap[w.heap.size]? = some (gBox g)) := heap_alloc_new _ _
 have CK : Hid (Calls Try.prog 17 #[g.val] (w.alloc (gBox g)) fun e w' => e = .returned (.tuple #[.int .i64 er, .int .i64 at_]) /\ Below (w.alloc (gBox g)).heap.size (w.alloc (gBox g)) w') := check_G g _ (h.later (below_alloc _ _)) hpc er at_ hE
 obtain ⟨x0, x1, x2, x3, x4⟩ := gb_cells X0.out
 have t1 : (er != 0) = true := by simpa using h0
 clear h hE
 go_enter Try.func7, Try.ntmps7
 go_wp2_with (go_at_call 17; refine CK.out.mono ?_; rintro e w2 ⟨rfl, b2⟩; have B2 : Hid (Below w.heap.size w w2) := (below_alloc w _).trans (b2.mono (below_alloc w _).size); clear b2)
 refine bodyPost_ret (results_tmp2 rfl _ _ _) rfl ?_
 exact ⟨rfl, B2.out⟩
theorem heights_ok (g : GV) (w : World) (h : GAt 140737488355328 w g) (hpc : g.ps.length <= g.pc) (at_ : Int) (hE : checkG g (checkF g.ts g.ns) = (0, at_)) :
  Calls Try.prog 7 #[g.val] w fun e w' => ∃ kb, e = .returned (.tuple #[.slice (some ⟨kb, 0, none⟩) g.ns.length g.ns.length, .int .i64 0]) /\ KB w' kb (htU g.ps g.ns.length g.ns.length) /\ w.heap.size <= kb /\ Below w.heap.size w w' := by
 have ok : OkC g := OkC.of (by rw [hE])
 have X0 : Hid ((w.alloc (gBox g)).heap[w.heap.size]? = some (gBox g)) := heap_alloc_new _ _
 have CK : Hid (Calls Try.prog 17 #[g.val] (w.alloc (gBox g)) fun e w' => e = .returned (.tuple #[.int .i64 0, .int .i64 at_]) /\ Below (w.alloc (gBox g)).heap.size (w.alloc (gBox g)) w') := check_G g _ (h.later (below_alloc _ _)) hpc 0 at_ hE
 have HFG : Hid (∀ w', Below w.heap.size w w' -> FG w' g) := fun w' hb => ok.fg (h.later hb)
 obtain ⟨x0, x1, x2, x3, x4⟩ := gb_cells X0.out
 have t1 : ((0 : Int) != 0) = false := by decide
 clear h hE ok
 go_enter Try.func7, Try.ntmps7
 go_wp2_with (first
  | (go_at_call 17; refine CK.out.mono ?_; rintro e w2 ⟨rfl, b2⟩; have B2 : Hid (Below w.heap.size w w2 /\ w2.heap[w.heap.size]? = some (gBox g)) := ⟨(below_alloc w _).trans (b2.mono (below_alloc w _).size), (b2.block _ (lt_of_block X0.out)).trans X0.out⟩; clear b2 x0 x1 x2 x3 x4; obtain ⟨x0, x1, x2, x3, x4⟩ := gb_cells B2.out.2)
  | (go_at_call 21; refine (heights_S g _ (HFG.out _ B2.out.1)).mono ?_; rintro e w3 ⟨nb, rfl, n3, l3, b3⟩; have B3 : Hid (KB w3 nb (htU g.ps g.ns.length g.ns.length) /\ w.heap.size <= nb /\ Below w.heap.size w w3) := ⟨n3, Nat.le_trans B2.out.1.size l3, B2.out.1.trans (b3.mono B2.out.1.size)⟩; clear n3 l3 b3))
 refine bodyPost_ret (results_tmp2 rfl _ _ _) rfl ?_
 exact ⟨nb, rfl, B3.out⟩
def topU (K : List Int) (l : List (Int × Int)) : Int := l.foldl (fun t s => if t < K.getD s.2.toNat 0 then K.getD s.2.toNat 0 else t) 0
def fit0 (K : List Int) (s : Int × Int) : Bool := decide (s.1 = 2) && decide (0 < K.getD s.2.toNat 0)
def madeP (K : List Int) (a : Int) (p : PV) : Bool := decide (p.left = a) && p.right.all (fit0 K) && decide (topU K p.right + 1 = K.getD a.toNat 0)
theorem topU_le {K : List Int} {m : Int} : ∀ (l : List (Int × Int)) (t : Int), t <= m -> (∀ s ∈ l, K.getD s.2.toNat 0 <= m) -> l.foldl (fun t s => if t < K.getD s.2.toNat 0 then K.getD s.2.toNat 0 else t) t <= m
 | [], t, h, _ => h
 | s :: r, t, h, hs => by
  rw [List.foldl_cons]
  refine topU_le r _ ?_ (fun x hx => hs x (by simp [hx]))
  split
  ·exact hs s (by simp)
  ·exact h
theorem topU_ge {K : List Int} : ∀ (l : List (Int × Int)) (t : Int), t <= l.foldl (fun t s => if t < K.getD s.2.toNat 0 then K.getD s.2.toNat 0 else t) t /\ ∀ s ∈ l, K.getD s.2.toNat 0 <= l.foldl (fun t s => if t < K.getD s.2.toNat 0 then K.getD s.2.toNat 0 else t) t
 | [], t => ⟨by simp, fun s hs => by cases hs⟩
 | x :: r, t => by
  rw [List.foldl_cons]
  obtain ⟨h1, h2⟩ := topU_ge (K := K) r (if t < K.getD x.2.toNat 0 then K.getD x.2.toNat 0 else t)
  have h3 : t <= (if t < K.getD x.2.toNat 0 then K.getD x.2.toNat 0 else t) /\ K.getD x.2.toNat 0 <= (if t < K.getD x.2.toNat 0 then K.getD x.2.toNat 0 else t) := by split <;> omega
  refine ⟨by omega, fun s hs => ?_⟩
  rcases List.mem_cons.1 hs with rfl | hs
  ·omega
  ·exact h2 s hs
theorem made_ex {g : GV} (hg : GP g) (a : Nat) (h : (htU g.ps g.ns.length g.ns.length).getD a 0 ≠ 0) : ∃ i, i < g.ps.length /\ madeP (htU g.ps g.ns.length g.ns.length) (a : Int) (g.ps.getD i .none) = true := by
 have hps := hg.left
 generalize hn : g.ns.length = n at *
 obtain ⟨b0, b1⟩ := htU_bd g.ps n n a
 obtain ⟨k, hk⟩ : ∃ k : Nat, (htU g.ps n n).getD a 0 = (k : Int) + 1 := ⟨((htU g.ps n n).getD a 0).toNat - 1, by omega⟩
 obtain ⟨d, hd⟩ : ∃ d, n = k + 1 + d := ⟨n - (k + 1), by omega⟩
 have e1 : (htU g.ps n (k + 1)).getD a 0 = (k : Int) + 1 := by
  have := htU_back g.ps n (k + 1) a d (by rw [<- hd, hk]; omega) (by rw [<- hd, hk]; omega)
  rw [this, <- hd, hk]
 have e0 : (htU g.ps n k).getD a 0 = 0 := by
  by_cases q : (htU g.ps n k).getD a 0 = 0
  ·exact q
  ·have := htU_keep g.ps n k a q 1
   have := (htU_bd g.ps n k a).2
   omega
 obtain ⟨p, hp, hpi, L, hL, hf⟩ := hFold_by k a g.ps (htU g.ps n k) e0 (by show (htU g.ps n (k + 1)).getD a 0 ≠ 0; omega)
 rw [fitU_iff] at hf
 have keep : ∀ j i, j <= n -> (htU g.ps n j).getD i 0 ≠ 0 -> (htU g.ps n n).getD i 0 = (htU g.ps n j).getD i 0 := fun j i hj q => by
  have := htU_keep g.ps n j i q (n - j)
  rwa [show j + (n - j) = n by omega] at this
 have hK : ∀ s ∈ p.right, s.1 = 2 /\ (htU g.ps n k).getD s.2.toNat 0 ≠ 0 := fun s hs => by
  obtain ⟨h1, h2, h3⟩ := hf s hs
  refine ⟨h1, fun q => ?_⟩
  rcases hL.new _ q with r | r
  ·exact h2 r
  ·rw [r] at h3; omega
 have hH : ∀ s ∈ p.right, s.1 = 2 /\ 0 < (htU g.ps n n).getD s.2.toNat 0 /\ (htU g.ps n n).getD s.2.toNat 0 <= (k : Int) := fun s hs => by
  obtain ⟨h1, h2⟩ := hK s hs
  have := keep k s.2.toNat (by omega) h2
  have := htU_bd g.ps n k s.2.toNat
  exact ⟨h1, by omega, by omega⟩
 have hpl := hps p hp
 have htop : topU (htU g.ps n n) p.right = (k : Int) := by
  have hle : topU (htU g.ps n n) p.right <= (k : Int) := topU_le p.right 0 (by omega) (fun s hs => (hH s hs).2.2)
  have hge := topU_ge (K := htU g.ps n n) p.right 0
  refine Classical.byContradiction fun q => ?_
  have hlt : topU (htU g.ps n n) p.right < (k : Int) := by omega
  obtain ⟨m, rfl⟩ : ∃ m, k = m + 1 := by
   refine ⟨k - 1, ?_⟩
   have : 0 <= topU (htU g.ps n n) p.right := hge.1
   omega
  have hfit : fitU (htU g.ps n (m + 1)) p.right m = true := fitU_iff.2 fun s hs => by
   have h1 := hK s hs
   have h2 := keep (m + 1) s.2.toNat (by omega) h1.2
   have h3 : (htU g.ps n n).getD s.2.toNat 0 <= topU (htU g.ps n n) p.right := hge.2 s hs
   exact ⟨h1.1, h1.2, by omega⟩
  have := htU_fit g.ps n m p hp hpl.1 hpl.2 hfit
  rw [hpi] at this
  exact this e0
 obtain ⟨i, hi, e⟩ := List.getElem_of_mem hp
 refine ⟨i, hi, ?_⟩
 rw [show g.ps.getD i .none = p by simp [List.getD, hi, e]]
 unfold madeP
 have q1 : p.left = (a : Int) := by omega
 have q2 : p.right.all (fit0 (htU g.ps n n)) = true := List.all_eq_true.2 fun s hs => by
  obtain ⟨h1, h2, _⟩ := hH s hs
  unfold fit0
  rw [decide_eq_true h1, decide_eq_true h2]; rfl
 rw [decide_eq_true q1, q2, htop, Int.toNat_natCast, hk]
 simp
end Go.Proofs.Ytaiebnppfabfgaa
