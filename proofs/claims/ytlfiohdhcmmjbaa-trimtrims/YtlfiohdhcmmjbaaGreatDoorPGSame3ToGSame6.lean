import Derived.Test.YtlfiohdhcmmjbaaGreatDoorPPlainToGDec14
namespace Go.Proofs.YtlfiohdhcmmjbaaGreatDoor
set_option linter.unusedVariables false
set_option maxRecDepth 100000
set_option maxHeartbeats 16000000
open Go.RowKit
theorem two_below (w:World)(x y:Obj):Below w.heap.size w ((w.alloc x).alloc y):=(bAl w x).trans ((bAl _ y).mono (bAl w x).size)
theorem samelev_g (w:World)(a:Int)(l:List Int)(ta tb:Option Addr)(tc td:Nat)(hl:l.length<=140737488355328)(h1:InRow w ta l)(h2:InRow w tb l) :
  Calls Tryz.prog 97 #[.agg #[.int .i64 a,.slice ta l.length tc],.agg #[.int .i64 a,.slice tb l.length td]] w fun e w'=>e=.returned (.bool true)/\Below w.heap.size w w':=by
 have HS:Hid (∀ w',Below w.heap.size w w'->Calls Tryz.prog 16 #[.slice ta l.length tc,.slice tb l.length td] w' fun e w''=>e=.returned (.bool true)/\∃ d,w''=w'.drewN d):=fun w' hb=>sameints_g ta tb _ _ tc td l w' rfl rfl hl (h1.later hb) (h2.later hb)
 have t1:(a == a)=true:=by simp
 clear h1 h2
 go_enter Tryz.func97,Tryz.ntmps97
 go_wp2_with (go_at_call 16;refine (HS.out _ (two_below w _ _)).mono ?_;rintro e w1 ⟨rfl,d1,rfl⟩)
 go_returns
 exact ⟨rfl,bDn (two_below w _ _) _⟩
theorem sameprod_g (w:World)(a c:Int)(l:List (Int×Int))(ta tb:Option Addr)(tc td:Nat)(hl:l.length<=140737488355328)(h1:SymRow w ta l)(h2:SymRow w tb l) :
  Calls Tryz.prog 96 #[.agg #[.int .i64 a,.slice ta l.length tc,.int .i64 c],.agg #[.int .i64 a,.slice tb l.length td,.int .i64 c]] w fun e w'=>e=.returned (.bool true)/\Below w.heap.size w w':=by
 have HS:Hid (∀ w',Below w.heap.size w w'->Calls Tryz.prog 18 #[.slice ta l.length tc,.slice tb l.length td] w' fun e w''=>e=.returned (.bool true)/\∃ d,w''=w'.drewN d):=fun w' hb=>samesyms_b ta tb tc td l l w' true (by simp) hl hl (h1.later (Nat.le_refl _) hb) (h2.later (Nat.le_refl _) hb)
 have t1:(a == a)=true:=by simp
 have t2:(c == c)=true:=by simp
 clear h1 h2
 go_enter Tryz.func96,Tryz.ntmps96
 go_wp2_with (go_at_call 18;refine (HS.out _ (two_below w _ _)).mono ?_;rintro e w1 ⟨rfl,d1,rfl⟩)
 go_returns
 exact ⟨rfl,bDn (two_below w _ _) _⟩
theorem samelevs_g (ao bo:Option Addr)(ca cb:Nat)(l m:List LV)(w:World)(he:m.map LV.core=l.map LV.core)(hl:l.length<=140737488355328)(hz:∀ q∈l,q.terms.length<=140737488355328)(hr:LvRow w ao l)(hs:LvRow w bo m) :
  Calls Tryz.prog 64 #[.slice ao l.length ca,.slice bo m.length cb] w fun e w'=>e=.returned (.bool true)/\Below w.heap.size w w':=by
 have hlm:m.length=l.length:=by simpa using congrArg List.length he
 rw [hlm]
 have HR:Hid (LvRow w ao l/\LvRow w bo m):=⟨hr,hs⟩
 have HE:Hid (∀ k,k < l.length->l.getD k .none∈l/\m.getD k .none∈m/\(m.getD k .none).assoc=(l.getD k .none).assoc/\(m.getD k .none).terms=(l.getD k .none).terms):=fun k hk=>by
  have hc:(m.getD k .none).core=(l.getD k .none).core:=by rw [getD_core LV.core,getD_core LV.core,he]
  exact ⟨by simp [List.getD,hk],by simp [List.getD,hlm,hk],congrArg (·.1) hc,congrArg (·.2) hc⟩
 have HZ:Hid (∀ q∈l,q.terms.length<=140737488355328):=hz
 have hb:((l.length:Int) != l.length)=false:=by simp
 clear hr hs he hz
 go_enter Tryz.func64,Tryz.ntmps64
 go_wp2
 go_loopw [5] (fun i wr=>∃ k:Nat,k<=l.length/\i=.int .i64 k/\Below w.heap.size w wr) (fun i _=>l.length - (intOf i).toNat)
 case atStart=>exact ⟨0,Nat.zero_le _,rfl,Below.refl _ _⟩
 case round =>
  obtain ⟨k,hk,rfl,hb'⟩:=hrel
  have HB:Hid (Below w.heap.size w wr):=hb'
  by_cases hlt:k < l.length
  ·obtain ⟨m1,m2,q1,q2⟩:=HE.out k hlt
   have R1:=(HR.out.1.later hb')
   have R2:=(HR.out.2.later hb')
   obtain ⟨b,off,rfl,lt1,hc⟩:=R1.cells (by intro h;subst h;simp at hlt)
   obtain ⟨b2,off2,rfl,lt2,hc2⟩:=R2.cells (by intro h;subst h;simp at hlm;omega)
   obtain ⟨h1,h2⟩:=hc k hlt
   obtain ⟨h3,h4⟩:=hc2 k (by omega)
   rw [q1] at h3
   rw [q2] at h4
   have i1:=R1.rows _ m1
   have i2:=R2.rows _ m2
   rw [q2] at i2
   have HI:Hid (∀ y:Ext wr,InRow y.w (l.getD k .none).ta (l.getD k .none).terms/\InRow y.w (m.getD k .none).ta (l.getD k .none).terms):=fun y=>⟨i1.later y.h,i2.later y.h⟩
   have HL:Hid ((l.getD k .none).terms.length<=140737488355328):=HZ.out _ m1
   clear hc hc2 R1 R2 q1 q2 m1 m2 i1 i2 hb'
   generalize l.getD k .none=x at *
   generalize m.getD k .none=y at *
   have x1:=fun y:Ext wr=>(y.cell (a:=⟨b,off+k*2,none⟩) lt1).trans h1
   have x2:=fun y:Ext wr=>(y.cell (a:=⟨b,off+k*2+1,none⟩) lt1).trans h2
   have x3:=fun y:Ext wr=>(y.cell (a:=⟨b2,off2+k*2,none⟩) lt2).trans h3
   have x4:=fun y:Ext wr=>(y.cell (a:=⟨b2,off2+k*2+1,none⟩) lt2).trans h4
   go_wp2
   refine wp_region_ext (by kernel_rfl) (by kernel_rfl) fun neX=>?_
   repeat (quiet_step (first | (go_at_call 97;exact Calls.ext_of (samelev_g _ _ _ _ _ _ _ HL.out (HI.out _).1 (HI.out _).2))))
   refine wpQuiet_nil ?_
   rintro _ ⟨y,rfl⟩
   have HY:Hid (Below w.heap.size w y.w):=HB.out.trans (y.h.mono HB.out.size)
   clear x1 x2 x3 x4 h1 h2 h3 h4 HI
   go_wp2
   go_roundw
   case rel=>exact ⟨k+1,by omega,by go_num,HY.out⟩
   case measure=>simp [intOf];omega
  ·go_wp2
   go_ret
   exact ⟨rfl,HB.out⟩
theorem sameprods_g (ao bo:Option Addr)(ca cb:Nat)(l m:List PV)(w:World)(he:m.map PV.core=l.map PV.core)(hl:l.length<=140737488355328)(hz:∀ q∈l,q.right.length<=140737488355328)(hr:PrRow w ao l)(hs:PrRow w bo m) :
  Calls Tryz.prog 63 #[.slice ao l.length ca,.slice bo m.length cb] w fun e w'=>e=.returned (.bool true)/\Below w.heap.size w w':=by
 have hlm:m.length=l.length:=by simpa using congrArg List.length he
 rw [hlm]
 have HR:Hid (PrRow w ao l/\PrRow w bo m):=⟨hr,hs⟩
 have HE:Hid (∀ k,k < l.length->l.getD k .none∈l/\m.getD k .none∈m/\(m.getD k .none).left=(l.getD k .none).left/\(m.getD k .none).right=(l.getD k .none).right/\(m.getD k .none).prec=(l.getD k .none).prec):=fun k hk=>by
  have hc:(m.getD k .none).core=(l.getD k .none).core:=by rw [getD_core PV.core,getD_core PV.core,he]
  exact ⟨by simp [List.getD,hk],by simp [List.getD,hlm,hk],congrArg (·.1) hc,congrArg (·.2.1) hc,congrArg (·.2.2) hc⟩
 have HZ:Hid (∀ q∈l,q.right.length<=140737488355328):=hz
 have hb:((l.length:Int) != l.length)=false:=by simp
 clear hr hs he hz
 go_enter Tryz.func63,Tryz.ntmps63
 go_wp2
 go_loopw [5] (fun i wr=>∃ k:Nat,k<=l.length/\i=.int .i64 k/\Below w.heap.size w wr) (fun i _=>l.length - (intOf i).toNat)
 case atStart=>exact ⟨0,Nat.zero_le _,rfl,Below.refl _ _⟩
 case round =>
  obtain ⟨k,hk,rfl,hb'⟩:=hrel
  have HB:Hid (Below w.heap.size w wr):=hb'
  by_cases hlt:k < l.length
  ·obtain ⟨m1,m2,q1,q2,q3⟩:=HE.out k hlt
   have R1:=(HR.out.1.later hb')
   have R2:=(HR.out.2.later hb')
   obtain ⟨b,off,rfl,lt1,hc⟩:=R1.cells (by intro h;subst h;simp at hlt)
   obtain ⟨b2,off2,rfl,lt2,hc2⟩:=R2.cells (by intro h;subst h;simp at hlm;omega)
   obtain ⟨h1,h2,h5⟩:=hc k hlt
   obtain ⟨h3,h4,h6⟩:=hc2 k (by omega)
   rw [q1] at h3
   rw [q2] at h4
   rw [q3] at h6
   have i1:=R1.rows _ m1
   have i2:=R2.rows _ m2
   rw [q2] at i2
   have HI:Hid (∀ y:Ext wr,SymRow y.w (l.getD k .none).ra (l.getD k .none).right/\SymRow y.w (m.getD k .none).ra (l.getD k .none).right):=fun y=>⟨i1.later (Nat.le_refl _) y.h,i2.later (Nat.le_refl _) y.h⟩
   have HL:Hid ((l.getD k .none).right.length<=140737488355328):=HZ.out _ m1
   clear hc hc2 R1 R2 q1 q2 q3 m1 m2 i1 i2 hb'
   generalize l.getD k .none=x at *
   generalize m.getD k .none=y at *
   have x1:=fun y:Ext wr=>(y.cell (a:=⟨b,off+k*3,none⟩) lt1).trans h1
   have x2:=fun y:Ext wr=>(y.cell (a:=⟨b,off+k*3+1,none⟩) lt1).trans h2
   have x3:=fun y:Ext wr=>(y.cell (a:=⟨b2,off2+k*3,none⟩) lt2).trans h3
   have x4:=fun y:Ext wr=>(y.cell (a:=⟨b2,off2+k*3+1,none⟩) lt2).trans h4
   have x5:=fun y:Ext wr=>(y.cell (a:=⟨b,off+k*3+2,none⟩) lt1).trans h5
   have x6:=fun y:Ext wr=>(y.cell (a:=⟨b2,off2+k*3+2,none⟩) lt2).trans h6
   go_wp2
   refine wp_region_ext (by kernel_rfl) (by kernel_rfl) fun neX=>?_
   repeat (quiet_step (first | (go_at_call 96;exact Calls.ext_of (sameprod_g _ _ _ _ _ _ _ _ HL.out (HI.out _).1 (HI.out _).2))))
   refine wpQuiet_nil ?_
   rintro _ ⟨y,rfl⟩
   have HY:Hid (Below w.heap.size w y.w):=HB.out.trans (y.h.mono HB.out.size)
   clear x1 x2 x3 x4 x5 x6 h1 h2 h3 h4 h5 h6 HI
   go_wp2
   go_roundw
   case rel=>exact ⟨k+1,by omega,by go_num,HY.out⟩
   case measure=>simp [intOf];omega
  ·go_wp2
   go_ret
   exact ⟨rfl,HB.out⟩
theorem samegram_g (w:World)(g g':GV)(n:Nat)(hn:n<=140737488355328)(h:GAt n w g)(h':GAt n w g')(hs:SameG g g') :
  Calls Tryz.prog 25 #[g'.val,g.val] w fun e w'=>e=.returned (.bool true)/\Below w.heap.size w w':=by
 obtain ⟨ta,tc,ts,na,nc,ns,st,pa,pc,ps,la,lc,ls⟩:=g
 obtain ⟨ta',tc',ts',na',nc',ns',st',pa',pc',ps',la',lc',ls'⟩:=g'
 obtain ⟨e1,e2,e3,e4,e5⟩:=hs
 simp only at e1 e2 e3 e4 e5
 subst e1 e2 e3
 have tl:=h.tl
 have nl:=h.nl
 have pl:=h'.pl
 have ll:=h'.ll
 have rl:=h'.rl
 have vl:=h'.vl
 simp only at tl nl pl ll rl vl
 have CT:Hid (∀ w',Below w.heap.size w w'->Calls Tryz.prog 42 #[.slice ta' ts'.length tc',.slice ta ts'.length tc] w' fun e w''=>e=.returned (.bool true)/\Below w'.heap.size w' w''):=fun w' hb=>(samestrs_g ta' ta _ _ tc' tc ts' w' rfl rfl (by omega) (h'.t.later hb) (h.t.later hb)).mono fun e w'' ⟨h1,d,h2⟩=>⟨h1,by rw [h2];exact bDn (Below.refl _ _) d⟩
 have CN:Hid (∀ w',Below w.heap.size w w'->Calls Tryz.prog 42 #[.slice na' ns'.length nc',.slice na ns'.length nc] w' fun e w''=>e=.returned (.bool true)/\Below w'.heap.size w' w''):=fun w' hb=>(samestrs_g na' na _ _ nc' nc ns' w' rfl rfl (by omega) (h'.n_.later hb) (h.n_.later hb)).mono fun e w'' ⟨h1,d,h2⟩=>⟨h1,by rw [h2];exact bDn (Below.refl _ _) d⟩
 have CP:Hid (∀ w',Below w.heap.size w w'->Calls Tryz.prog 63 #[.slice pa' ps'.length pc',.slice pa ps.length pc] w' fun e w''=>e=.returned (.bool true)/\Below w'.heap.size w' w''):=fun w' hb=>sameprods_g pa' pa pc' pc ps' ps w' e4.symm (by omega) (fun q hq=>by have:=rl q hq;omega) (h'.p.later hb) (h.p.later hb)
 have CL:Hid (∀ w',Below w.heap.size w w'->Calls Tryz.prog 64 #[.slice la' ls'.length lc',.slice la ls.length lc] w' fun e w''=>e=.returned (.bool true)/\Below w'.heap.size w' w''):=fun w' hb=>samelevs_g la' la lc' lc ls' ls w' e5.symm (by omega) (fun q hq=>by have:=vl q hq;omega) (h'.l.later hb) (h.l.later hb)
 have t1:(st' == st')=true:=by simp
 obtain ⟨hb0,hx0,hx1⟩:=two_alloc w (.cells #[.slice ta' ts'.length tc',.slice na' ns'.length nc',.int .i64 st',.slice pa' ps'.length pc',.slice la' ls'.length lc'] 26) (.cells #[.slice ta ts'.length tc,.slice na ns'.length nc,.int .i64 st',.slice pa ps.length pc,.slice la ls.length lc] 26)
 have HB0:Hid (Below w.heap.size w ((w.alloc (.cells #[.slice ta' ts'.length tc',.slice na' ns'.length nc',.int .i64 st',.slice pa' ps'.length pc',.slice la' ls'.length lc'] 26)).alloc (.cells #[.slice ta ts'.length tc,.slice na ns'.length nc,.int .i64 st',.slice pa ps.length pc,.slice la ls.length lc] 26))):=hb0
 have KB:Hid (∀ w',Below ((w.alloc (.cells #[.slice ta' ts'.length tc',.slice na' ns'.length nc',.int .i64 st',.slice pa' ps'.length pc',.slice la' ls'.length lc'] 26)).alloc (.cells #[.slice ta ts'.length tc,.slice na ns'.length nc,.int .i64 st',.slice pa ps.length pc,.slice la ls.length lc] 26)).heap.size ((w.alloc (.cells #[.slice ta' ts'.length tc',.slice na' ns'.length nc',.int .i64 st',.slice pa' ps'.length pc',.slice la' ls'.length lc'] 26)).alloc (.cells #[.slice ta ts'.length tc,.slice na ns'.length nc,.int .i64 st',.slice pa ps.length pc,.slice la ls.length lc] 26)) w'->w'.heap[w.heap.size]?=some (.cells #[.slice ta' ts'.length tc',.slice na' ns'.length nc',.int .i64 st',.slice pa' ps'.length pc',.slice la' ls'.length lc'] 26 (0,0))/\w'.heap[w.heap.size+1]?=some (.cells #[.slice ta ts'.length tc,.slice na ns'.length nc,.int .i64 st',.slice pa ps.length pc,.slice la ls.length lc] 26 (0,0))):=fun w' hb=>⟨(hb.block _ (lt_of_block hx0)).trans hx0,(hb.block _ (lt_of_block hx1)).trans hx1⟩
 have HB1:Hid (Below w.heap.size ((w.alloc (.cells #[.slice ta' ts'.length tc',.slice na' ns'.length nc',.int .i64 st',.slice pa' ps'.length pc',.slice la' ls'.length lc'] 26)).alloc (.cells #[.slice ta ts'.length tc,.slice na ns'.length nc,.int .i64 st',.slice pa ps.length pc,.slice la ls.length lc] 26)) ((w.alloc (.cells #[.slice ta' ts'.length tc',.slice na' ns'.length nc',.int .i64 st',.slice pa' ps'.length pc',.slice la' ls'.length lc'] 26)).alloc (.cells #[.slice ta ts'.length tc,.slice na ns'.length nc,.int .i64 st',.slice pa ps.length pc,.slice la ls.length lc] 26))):=Below.refl _ _
 clear h h' e4 e5 rl vl hb0 hx0 hx1
 go_enter Tryz.func25,Tryz.ntmps25
 go_wp2_with (first
  | (go_at_call 42;refine (CN.out _ (HB0.out.trans (B1.out.mono HB0.out.size))).mono ?_;rintro e w2 ⟨rfl,hb'⟩;have B2:Hid (Below ((w.alloc (.cells #[.slice ta' ts'.length tc',.slice na' ns'.length nc',.int .i64 st',.slice pa' ps'.length pc',.slice la' ls'.length lc'] 26)).alloc (.cells #[.slice ta ts'.length tc,.slice na ns'.length nc,.int .i64 st',.slice pa ps.length pc,.slice la ls.length lc] 26)).heap.size ((w.alloc (.cells #[.slice ta' ts'.length tc',.slice na' ns'.length nc',.int .i64 st',.slice pa' ps'.length pc',.slice la' ls'.length lc'] 26)).alloc (.cells #[.slice ta ts'.length tc,.slice na ns'.length nc,.int .i64 st',.slice pa ps.length pc,.slice la ls.length lc] 26)) w2):=B1.out.trans (hb'.mono B1.out.size);have kk:=KB.out w2 B2.out;clear a0 b0 a1 b1 a2 b2 a3 b3 a4 b4;have a0:w2.cell? ⟨w.heap.size,0,none⟩=some (.slice ta' ts'.length tc'):=(by rw [cQa kk.1];rfl);have b0:w2.cell? ⟨w.heap.size+1,0,none⟩=some (.slice ta ts'.length tc):=(by rw [cQa kk.2];rfl);have a1:w2.cell? ⟨w.heap.size,1,none⟩=some (.slice na' ns'.length nc'):=(by rw [cQa kk.1];rfl);have b1:w2.cell? ⟨w.heap.size+1,1,none⟩=some (.slice na ns'.length nc):=(by rw [cQa kk.2];rfl);have a2:w2.cell? ⟨w.heap.size,2,none⟩=some (.int .i64 st'):=(by rw [cQa kk.1];rfl);have b2:w2.cell? ⟨w.heap.size+1,2,none⟩=some (.int .i64 st'):=(by rw [cQa kk.2];rfl);have a3:w2.cell? ⟨w.heap.size,3,none⟩=some (.slice pa' ps'.length pc'):=(by rw [cQa kk.1];rfl);have b3:w2.cell? ⟨w.heap.size+1,3,none⟩=some (.slice pa ps.length pc):=(by rw [cQa kk.2];rfl);have a4:w2.cell? ⟨w.heap.size,4,none⟩=some (.slice la' ls'.length lc'):=(by rw [cQa kk.1];rfl);have b4:w2.cell? ⟨w.heap.size+1,4,none⟩=some (.slice la ls.length lc):=(by rw [cQa kk.2];rfl);clear kk hb')
  | (go_at_call 42;refine (CT.out _ HB0.out).mono ?_;rintro e w1 ⟨rfl,hb'⟩;have B1:Hid (Below ((w.alloc (.cells #[.slice ta' ts'.length tc',.slice na' ns'.length nc',.int .i64 st',.slice pa' ps'.length pc',.slice la' ls'.length lc'] 26)).alloc (.cells #[.slice ta ts'.length tc,.slice na ns'.length nc,.int .i64 st',.slice pa ps.length pc,.slice la ls.length lc] 26)).heap.size ((w.alloc (.cells #[.slice ta' ts'.length tc',.slice na' ns'.length nc',.int .i64 st',.slice pa' ps'.length pc',.slice la' ls'.length lc'] 26)).alloc (.cells #[.slice ta ts'.length tc,.slice na ns'.length nc,.int .i64 st',.slice pa ps.length pc,.slice la ls.length lc] 26)) w1):=hb';have kk:=KB.out w1 B1.out;have a0:w1.cell? ⟨w.heap.size,0,none⟩=some (.slice ta' ts'.length tc'):=(by rw [cQa kk.1];rfl);have b0:w1.cell? ⟨w.heap.size+1,0,none⟩=some (.slice ta ts'.length tc):=(by rw [cQa kk.2];rfl);have a1:w1.cell? ⟨w.heap.size,1,none⟩=some (.slice na' ns'.length nc'):=(by rw [cQa kk.1];rfl);have b1:w1.cell? ⟨w.heap.size+1,1,none⟩=some (.slice na ns'.length nc):=(by rw [cQa kk.2];rfl);have a2:w1.cell? ⟨w.heap.size,2,none⟩=some (.int .i64 st'):=(by rw [cQa kk.1];rfl);have b2:w1.cell? ⟨w.heap.size+1,2,none⟩=some (.int .i64 st'):=(by rw [cQa kk.2];rfl);have a3:w1.cell? ⟨w.heap.size,3,none⟩=some (.slice pa' ps'.length pc'):=(by rw [cQa kk.1];rfl);have b3:w1.cell? ⟨w.heap.size+1,3,none⟩=some (.slice pa ps.length pc):=(by rw [cQa kk.2];rfl);have a4:w1.cell? ⟨w.heap.size,4,none⟩=some (.slice la' ls'.length lc'):=(by rw [cQa kk.1];rfl);have b4:w1.cell? ⟨w.heap.size+1,4,none⟩=some (.slice la ls.length lc):=(by rw [cQa kk.2];rfl);clear kk hb')
  | (go_at_call 63;refine (CP.out _ (HB0.out.trans (B2.out.mono HB0.out.size))).mono ?_;rintro e w3 ⟨rfl,hb'⟩;have B3:Hid (Below ((w.alloc (.cells #[.slice ta' ts'.length tc',.slice na' ns'.length nc',.int .i64 st',.slice pa' ps'.length pc',.slice la' ls'.length lc'] 26)).alloc (.cells #[.slice ta ts'.length tc,.slice na ns'.length nc,.int .i64 st',.slice pa ps.length pc,.slice la ls.length lc] 26)).heap.size ((w.alloc (.cells #[.slice ta' ts'.length tc',.slice na' ns'.length nc',.int .i64 st',.slice pa' ps'.length pc',.slice la' ls'.length lc'] 26)).alloc (.cells #[.slice ta ts'.length tc,.slice na ns'.length nc,.int .i64 st',.slice pa ps.length pc,.slice la ls.length lc] 26)) w3):=B2.out.trans (hb'.mono B2.out.size);have kk:=KB.out w3 B3.out;clear a0 b0 a1 b1 a2 b2 a3 b3 a4 b4;have a0:w3.cell? ⟨w.heap.size,0,none⟩=some (.slice ta' ts'.length tc'):=(by rw [cQa kk.1];rfl);have b0:w3.cell? ⟨w.heap.size+1,0,none⟩=some (.slice ta ts'.length tc):=(by rw [cQa kk.2];rfl);have a1:w3.cell? ⟨w.heap.size,1,none⟩=some (.slice na' ns'.length nc'):=(by rw [cQa kk.1];rfl);have b1:w3.cell? ⟨w.heap.size+1,1,none⟩=some (.slice na ns'.length nc):=(by rw [cQa kk.2];rfl);have a2:w3.cell? ⟨w.heap.size,2,none⟩=some (.int .i64 st'):=(by rw [cQa kk.1];rfl);have b2:w3.cell? ⟨w.heap.size+1,2,none⟩=some (.int .i64 st'):=(by rw [cQa kk.2];rfl);have a3:w3.cell? ⟨w.heap.size,3,none⟩=some (.slice pa' ps'.length pc'):=(by rw [cQa kk.1];rfl);have b3:w3.cell? ⟨w.heap.size+1,3,none⟩=some (.slice pa ps.length pc):=(by rw [cQa kk.2];rfl);have a4:w3.cell? ⟨w.heap.size,4,none⟩=some (.slice la' ls'.length lc'):=(by rw [cQa kk.1];rfl);have b4:w3.cell? ⟨w.heap.size+1,4,none⟩=some (.slice la ls.length lc):=(by rw [cQa kk.2];rfl);clear kk hb')
  | (go_at_call 64;refine (CL.out _ (HB0.out.trans (B3.out.mono HB0.out.size))).mono ?_;rintro e w4 ⟨rfl,hb'⟩;have B4:Hid (Below ((w.alloc (.cells #[.slice ta' ts'.length tc',.slice na' ns'.length nc',.int .i64 st',.slice pa' ps'.length pc',.slice la' ls'.length lc'] 26)).alloc (.cells #[.slice ta ts'.length tc,.slice na ns'.length nc,.int .i64 st',.slice pa ps.length pc,.slice la ls.length lc] 26)).heap.size ((w.alloc (.cells #[.slice ta' ts'.length tc',.slice na' ns'.length nc',.int .i64 st',.slice pa' ps'.length pc',.slice la' ls'.length lc'] 26)).alloc (.cells #[.slice ta ts'.length tc,.slice na ns'.length nc,.int .i64 st',.slice pa ps.length pc,.slice la ls.length lc] 26)) w4):=B3.out.trans (hb'.mono B3.out.size);have kk:=KB.out w4 B4.out;clear a0 b0 a1 b1 a2 b2 a3 b3 a4 b4;have a0:w4.cell? ⟨w.heap.size,0,none⟩=some (.slice ta' ts'.length tc'):=(by rw [cQa kk.1];rfl);have b0:w4.cell? ⟨w.heap.size+1,0,none⟩=some (.slice ta ts'.length tc):=(by rw [cQa kk.2];rfl);have a1:w4.cell? ⟨w.heap.size,1,none⟩=some (.slice na' ns'.length nc'):=(by rw [cQa kk.1];rfl);have b1:w4.cell? ⟨w.heap.size+1,1,none⟩=some (.slice na ns'.length nc):=(by rw [cQa kk.2];rfl);have a2:w4.cell? ⟨w.heap.size,2,none⟩=some (.int .i64 st'):=(by rw [cQa kk.1];rfl);have b2:w4.cell? ⟨w.heap.size+1,2,none⟩=some (.int .i64 st'):=(by rw [cQa kk.2];rfl);have a3:w4.cell? ⟨w.heap.size,3,none⟩=some (.slice pa' ps'.length pc'):=(by rw [cQa kk.1];rfl);have b3:w4.cell? ⟨w.heap.size+1,3,none⟩=some (.slice pa ps.length pc):=(by rw [cQa kk.2];rfl);have a4:w4.cell? ⟨w.heap.size,4,none⟩=some (.slice la' ls'.length lc'):=(by rw [cQa kk.1];rfl);have b4:w4.cell? ⟨w.heap.size+1,4,none⟩=some (.slice la ls.length lc):=(by rw [cQa kk.2];rfl);clear kk hb'))
 go_returns
 exact ⟨rfl,HB0.out.trans (B4.out.mono HB0.out.size)⟩
end Go.Proofs.YtlfiohdhcmmjbaaGreatDoor
