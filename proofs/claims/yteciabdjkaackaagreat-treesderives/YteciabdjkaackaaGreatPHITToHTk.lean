import Derived.Test.YteciabdjkaackaaGreatPGIntact
import Derived.Test.YteciabdjkaackaaGreatPHTok0ToHTok
import Derived.Test.YteciabdjkaackaaGreatPGG1ToTKd
namespace Go.Proofs.YteciabdjkaackaaGreat
set_option linter.unusedVariables false
open Go.RowKit
set_option maxHeartbeats 2000000 in
theorem sametoks_h (ao bo:Option Addr)(n m ca cb:Nat)(l:List (Int×ByteArray))(w:World)(hn:n=l.length)(hm:m=l.length)(hl:l.length<=140737488355328)(hr:TkRow w ao l)(hs:TkRow w bo l) :
  Calls Tryz.prog 14 #[.slice ao n ca,.slice bo m cb] w fun e w'=>e=.returned (.bool true)/\∃ d,w'=w.drewN d:=by
 subst hn hm
 have hb:((l.length:Int) != l.length)=false:=by simp
 go_enter Tryz.func14,Tryz.ntmps14
 go_wp2
 go_loopw [5] (fun i wr=>∃ k d:Nat,k<=l.length/\i=.int .i64 k/\wr=w.drewN d) (fun i _=>l.length - (intOf i).toNat)
 case atStart=>exact ⟨0,0,Nat.zero_le _,rfl,rfl⟩
 case round =>
  obtain ⟨k,d,hk,rfl,rfl⟩:=hrel
  by_cases hlt:k < l.length
  ·obtain ⟨b,off,rfl,_,hc⟩:=hr (by intro h;subst h;simp at hlt)
   obtain ⟨b2,off2,rfl,_,hc2⟩:=hs (by intro h;subst h;simp at hlt)
   obtain ⟨h1,h2⟩:=hc k hlt
   obtain ⟨h3,h4⟩:=hc2 k hlt
   clear hc hc2 hr hs
   generalize l.getD k (0,ByteArray.empty)=q at *
   obtain ⟨q1,q2⟩:=q
   simp only at h1 h2 h3 h4
   go_wp2
   go_quiet (fail)
   go_wp2
   go_roundw
   case rel=>exact ⟨k+1,_,by omega,by go_num,rfl⟩
   case measure=>simp [intOf];omega
  ·go_wp2
   go_ret
   exact ⟨rfl,_,rfl⟩
theorem HE.tokRows {w:World}{e:HE}(h:e.At w)(ht:e.t=23/\e.sz=2/\∃ zs:List (Int×ByteArray),e.cs=tkcP zs):∃ zs:List (Int×ByteArray),e.N=zs.length/\∀ n,TkRow (w.drewN n) (some ⟨e.g,0,none⟩) zs/\TkRow (w.drewN n) e.a zs:=by
 obtain ⟨t1,t2,zs,hz⟩:=ht
 obtain ⟨t,sz,g,N,a,c,cs⟩:=e
 simp only at t1 t2 hz
 subst t1 t2 hz
 have hN:N=zs.length:=by have:=h.len;simp only [tkcP_len] at this;omega
 refine ⟨zs,hN,fun n=>?_⟩
 have hk:=h.later (bDn (Below.refl _ _) n)
 have hsy:TYo (w.drewN n) (.slice a N c) zs:=by have:=hk.own;unfold TYo;rw [<- hN];exact this
 exact ⟨FullT.row ⟨hk.hg⟩,hsy.row⟩
structure StGT (E:Nat->List HE):Prop where
 int:∀ e∈E 1,e.t=3/\e.sz=1/\∃ zs:List Int,e.cs=zs.map (Value.int .i64 ·)
 str:∀ e∈E 2,e.t=9/\e.sz=1/\∃ zs:List ByteArray,e.cs=zs.map Value.string
 sym:∀ e∈E 4,e.t=82/\e.sz=2/\∃ zs:List (Int×Int),e.cs=sCl zs
 tok:∀ e∈E 9,e.t=23/\e.sz=2/\∃ zs:List (Int×ByteArray),e.cs=tkcP zs
 no:∀ κ,κ≠1->κ≠2->κ≠4->κ≠9->E κ=[]
set_option maxRecDepth 100000 in
set_option maxHeartbeats 8000000 in
theorem gintactK (q:Nat)(V:Nat->Value)(ty:Nat->TypeId)(E:Nat->List HE)(w:World)(hG:HInv w q V ty E)(hS:StGT E)(h1:(E 1).length<=5864062014720)(h2:(E 2).length<=5864062014720)(h4:(E 4).length<=5864062014720)(h9:(E 9).length<=5864062014720) :
  Calls Tryz.prog 23 #[.pointer (some ⟨q,0,none⟩)] w fun e w'=>e=.returned (.bool true)/\Below w.heap.size w w':=by
 have hemp:∀ i,i / 2≠1->i / 2≠2->i / 2≠4->i / 2≠9->∃ a c,V i=.slice a 0 c:=fun i h0 h1 h2 h3=>by
  have hr:=hG.row i
  have e:Go.Proofs.YteciabdjkaackaaGreat.hS E i=[]:=by unfold Go.Proofs.YteciabdjkaackaaGreat.hS;rw [hS.no _ h0 h1 h2 h3];simp
  rw [e] at hr
  exact hr.slice
 have HG:Hid (HInv w q V ty E):=hG
 obtain ⟨a0,c0,v0⟩:=hemp 0 (by decide) (by decide) (by decide) (by decide)
 have k0:=hG.cell (i:=0) (by omega)
 rw [v0] at k0
 obtain ⟨a1,c1,v1⟩:=hemp 1 (by decide) (by decide) (by decide) (by decide)
 have k1:=hG.cell (i:=1) (by omega)
 rw [v1] at k1
 have k2:=hG.cell (i:=2) (by omega)
 have R2:=hG.row 2
 obtain ⟨a2,c2,v2⟩:=R2.slice
 rw [show (Go.Proofs.YteciabdjkaackaaGreat.hS E 2).length=(E 1).length by show ((E 1).map HE.fst).length=_;simp] at v2
 rw [v2] at k2
 have R4:=hG.row 4
 obtain ⟨a4,c4,v4⟩:=R4.slice
 rw [show (Go.Proofs.YteciabdjkaackaaGreat.hS E 4).length=(E 2).length by show ((E 2).map HE.fst).length=_;simp] at v4
 clear hG R4 R2
 go_enter Tryz.func23,Tryz.ntmps23
 go_wp2
 go_loop [3] (fun i=>i=.int .i64 0) (fun _=>0)
 case atStart=>rfl
 case round =>
  subst hrel
  go_wp2
  go_loopw [4] (fun i wr=>∃ (j:Nat),i=.int .i64 j/\j<=(E 1).length/\HInv wr q V ty E/\Below w.heap.size w wr) (fun i _=>(E 1).length - (intOf i).toNat)
  case atStart=>exact ⟨0,rfl,Nat.zero_le _,HG.out,Below.refl _ _⟩
  case round =>
   clear HG k0 k1 k2
   obtain ⟨j,rfl,hj,hG,hst⟩:=hrel
   have k2:=hG.cell (i:=2) (by omega)
   rw [v2] at k2
   by_cases hlt:j < (E 1).length
   ·obtain ⟨g,c,hLe,hcl⟩:=(hG.row 2).at j (E 1)[j].fst (by show ((E 1).map HE.fst)[j]?=_;simp [hlt])
    obtain ⟨g2,c2,hWe,hcw⟩:=(hG.row 3).at j (E 1)[j].snd (by show ((E 1).map HE.snd)[j]?=_;simp [hlt])
    rw [show (Go.Proofs.YteciabdjkaackaaGreat.hS E 3).length=(E 1).length by show ((E 1).map HE.snd).length=_;simp] at hWe
    have k3:=hG.cell (i:=3) (by omega)
    rw [hWe] at k3
    rw [v2] at hLe
    simp only [Value.slice.injEq] at hLe
    obtain ⟨rfl,_,rfl⟩:=hLe
    obtain ⟨zs,hN,HR⟩:=HE.intRows (hG.at_ 1 _ (List.getElem_mem hlt)) (hS.int _ (List.getElem_mem hlt))
    have HL:Hid (zs.length<=140737488355328):=by have:=(hG.at_ 1 _ (List.getElem_mem hlt)).lim;show _<=_;omega
    generalize (E 1)[j]=x at *
    obtain ⟨xt,xz,xg,xN,xa,xc,xcs⟩:=x
    simp only [HE.fst,HE.snd] at hcl hcw hN HR
    subst hN
    have HR':Hid (∀ n,InRow (wr.drewN n) (some ⟨xg,0,none⟩) zs/\InRow (wr.drewN n) xa zs):=HR
    clear HR
    go_wp2
    go_quiet ((go_at_call 17;(exact Calls.quiet_of (sameints_g (some ⟨xg,0,none⟩) xa zs.length zs.length zs.length xc zs (wr.drewN _) rfl rfl HL.out (HR'.out _).1 (HR'.out _).2))))
    go_wp2
    go_roundw
    case rel=>exact ⟨j+1,by go_num,by omega,hG.later (bDn (Below.refl _ _) _),bDn hst _⟩
    case measure=>simp [intOf];omega
   ·have HG:Hid (HInv wr q V ty E):=hG
    have k4:=hG.cell (i:=4) (by omega)
    rw [v4] at k4
    clear hG
    obtain ⟨wz,rfl⟩:∃ wz:World,wz=wr:=⟨_,rfl⟩
    go_wp2
    go_loopw [5] (fun i wr=>∃ (j:Nat),i=.int .i64 j/\j<=(E 2).length/\HInv wr q V ty E/\Below w.heap.size w wr) (fun i _=>(E 2).length - (intOf i).toNat)
    case atStart=>exact ⟨0,rfl,Nat.zero_le _,HG.out,hst⟩
    case round =>
     clear HG k2 k4 hst hlt hj
     obtain ⟨j,rfl,hj,hG,hst⟩:=hrel
     have k4:=hG.cell (i:=4) (by omega)
     rw [v4] at k4
     by_cases hlt:j < (E 2).length
     ·obtain ⟨g,c,hLe,hcl⟩:=(hG.row 4).at j (E 2)[j].fst (by show ((E 2).map HE.fst)[j]?=_;simp [hlt])
      obtain ⟨g2,c2,hWe,hcw⟩:=(hG.row 5).at j (E 2)[j].snd (by show ((E 2).map HE.snd)[j]?=_;simp [hlt])
      rw [show (Go.Proofs.YteciabdjkaackaaGreat.hS E 5).length=(E 2).length by show ((E 2).map HE.snd).length=_;simp] at hWe
      have k5:=hG.cell (i:=5) (by omega)
      rw [hWe] at k5
      rw [v4] at hLe
      simp only [Value.slice.injEq] at hLe
      obtain ⟨rfl,_,rfl⟩:=hLe
      obtain ⟨zs,hN,HR⟩:=HE.strRows (hG.at_ 2 _ (List.getElem_mem hlt)) (hS.str _ (List.getElem_mem hlt))
      have HL:Hid (zs.length<=140737488355328):=by have:=(hG.at_ 2 _ (List.getElem_mem hlt)).lim;show _<=_;omega
      generalize (E 2)[j]=x at *
      obtain ⟨xt,xz,xg,xN,xa,xc,xcs⟩:=x
      simp only [HE.fst,HE.snd] at hcl hcw hN HR
      subst hN
      have HR':Hid (∀ n,StrRow (wr.drewN n) (some ⟨xg,0,none⟩) zs/\StrRow (wr.drewN n) xa zs):=HR
      clear HR
      go_wp2
      go_quiet ((go_at_call 53;(exact Calls.quiet_of (samestrs_h (some ⟨xg,0,none⟩) xa zs.length zs.length zs.length xc zs (wr.drewN _) rfl rfl HL.out (HR'.out _).1 (HR'.out _).2))))
      go_wp2
      go_roundw
      case rel=>exact ⟨j+1,by go_num,by omega,hG.later (bDn (Below.refl _ _) _),bDn hst _⟩
      case measure=>simp [intOf];omega
     ·have HG:Hid (HInv wr q V ty E):=hG
      obtain ⟨a6,c6,v6⟩:=hemp 6 (by decide) (by decide) (by decide) (by decide)
      have k6:=hG.cell (i:=6) (by omega)
      rw [v6] at k6
      have k8:=hG.cell (i:=8) (by omega)
      obtain ⟨a8,c8,v8⟩:=(hG.row 8).slice
      rw [show (Go.Proofs.YteciabdjkaackaaGreat.hS E 8).length=(E 4).length by show ((E 4).map HE.fst).length=_;simp] at v8
      rw [v8] at k8
      clear hG
      go_wp2
      go_loop [6] (fun i=>i=.int .i64 0) (fun _=>0)
      case atStart=>rfl
      case round =>
       subst hrel
       go_wp2
       obtain ⟨wo,rfl⟩:∃ wo:World,wo=wr:=⟨_,rfl⟩
       go_loopw [7] (fun i wr=>∃ (j:Nat),i=.int .i64 j/\j<=(E 4).length/\HInv wr q V ty E/\Below w.heap.size w wr) (fun i _=>(E 4).length - (intOf i).toNat)
       case atStart=>exact ⟨0,rfl,Nat.zero_le _,HG.out,hst⟩
       case round =>
        clear HG k6 k8 k4 hst hlt hj
        obtain ⟨j,rfl,hj,hG,hst⟩:=hrel
        have k8:=hG.cell (i:=8) (by omega)
        rw [v8] at k8
        by_cases hlt:j < (E 4).length
        ·obtain ⟨g,c,hLe,hcl⟩:=(hG.row 8).at j (E 4)[j].fst (by show ((E 4).map HE.fst)[j]?=_;simp [hlt])
         obtain ⟨g2,c2,hWe,hcw⟩:=(hG.row 9).at j (E 4)[j].snd (by show ((E 4).map HE.snd)[j]?=_;simp [hlt])
         rw [show (Go.Proofs.YteciabdjkaackaaGreat.hS E 9).length=(E 4).length by show ((E 4).map HE.snd).length=_;simp] at hWe
         have k9:=hG.cell (i:=9) (by omega)
         rw [hWe] at k9
         rw [v8] at hLe
         simp only [Value.slice.injEq] at hLe
         obtain ⟨rfl,_,rfl⟩:=hLe
         obtain ⟨zs,hN,HR⟩:=HE.symRows (hG.at_ 4 _ (List.getElem_mem hlt)) (hS.sym _ (List.getElem_mem hlt))
         have HL:Hid (zs.length<=140737488355328):=by have:=(hG.at_ 4 _ (List.getElem_mem hlt)).lim;show _<=_;omega
         generalize (E 4)[j]=x at *
         obtain ⟨xt,xz,xg,xN,xa,xc,xcs⟩:=x
         simp only [HE.fst,HE.snd] at hcl hcw hN HR
         subst hN
         have HR':Hid (∀ n,SymRow (wr.drewN n) (some ⟨xg,0,none⟩) zs/\SymRow (wr.drewN n) xa zs):=HR
         clear HR
         go_wp2
         go_quiet ((go_at_call 55;(exact Calls.quiet_of (samesyms_h (some ⟨xg,0,none⟩) xa zs.length zs.length zs.length xc zs (wr.drewN _) rfl rfl HL.out (HR'.out _).1 (HR'.out _).2))))
         go_wp2
         go_roundw
         case rel=>exact ⟨j+1,by go_num,by omega,hG.later (bDn (Below.refl _ _) _),bDn hst _⟩
         case measure=>simp [intOf];omega
        ·have hgo:=hlt
         obtain ⟨a10,c10,v10⟩:=hemp 10 (by decide) (by decide) (by decide) (by decide)
         have k10:=hG.cell (i:=10) (by omega)
         rw [v10] at k10
         obtain ⟨a12,c12,v12⟩:=hemp 12 (by decide) (by decide) (by decide) (by decide)
         have k12:=hG.cell (i:=12) (by omega)
         rw [v12] at k12
         obtain ⟨a14,c14,v14⟩:=hemp 14 (by decide) (by decide) (by decide) (by decide)
         have k14:=hG.cell (i:=14) (by omega)
         rw [v14] at k14
         obtain ⟨a16,c16,v16⟩:=hemp 16 (by decide) (by decide) (by decide) (by decide)
         have k16:=hG.cell (i:=16) (by omega)
         rw [v16] at k16
         have k18:=hG.cell (i:=18) (by omega)
         obtain ⟨a18,c18,v18⟩:=(hG.row 18).slice
         rw [show (Go.Proofs.YteciabdjkaackaaGreat.hS E 18).length=(E 9).length by show ((E 9).map HE.fst).length=_;simp] at v18
         rw [v18] at k18
         have HGF:Hid (HInv wr q V ty E/\Below w.heap.size w wr):=⟨hG,hst⟩
         clear hG
         go_wp2
         go_loop [8] (fun i=>i=.int .i64 0) (fun _=>0)
         case atStart=>rfl
         case round =>
          subst hrel
          go_wp2
          go_loop [9] (fun i=>i=.int .i64 0) (fun _=>0)
          case atStart=>rfl
          case round =>
           subst hrel
           go_wp2
           go_loop [10] (fun i=>i=.int .i64 0) (fun _=>0)
           case atStart=>rfl
           case round =>
            subst hrel
            go_wp2
            go_loop [11] (fun i=>i=.int .i64 0) (fun _=>0)
            case atStart=>rfl
            case round =>
             subst hrel
             go_wp2
             go_loopw [12] (fun i wr=>∃ (j:Nat),i=.int .i64 j/\j<=(E 9).length/\HInv wr q V ty E/\Below w.heap.size w wr) (fun i _=>(E 9).length - (intOf i).toNat)
             case atStart=>exact ⟨0,rfl,Nat.zero_le _,HGF.out.1,HGF.out.2⟩
             case round =>
              clear HGF k10 k12 k14 k16 k18 hst hlt hgo hj
              obtain ⟨j,rfl,hj,hG,hst⟩:=hrel
              have k18:=hG.cell (i:=18) (by omega)
              rw [v18] at k18
              by_cases hlt:j < (E 9).length
              ·obtain ⟨g,c,hLe,hcl⟩:=(hG.row 18).at j (E 9)[j].fst (by show ((E 9).map HE.fst)[j]?=_;simp [hlt])
               obtain ⟨g2,c2,hWe,hcw⟩:=(hG.row 19).at j (E 9)[j].snd (by show ((E 9).map HE.snd)[j]?=_;simp [hlt])
               rw [show (Go.Proofs.YteciabdjkaackaaGreat.hS E 19).length=(E 9).length by show ((E 9).map HE.snd).length=_;simp] at hWe
               have k19:=hG.cell (i:=19) (by omega)
               rw [hWe] at k19
               rw [v18] at hLe
               simp only [Value.slice.injEq] at hLe
               obtain ⟨rfl,_,rfl⟩:=hLe
               obtain ⟨zs,hN,HR⟩:=HE.tokRows (hG.at_ 9 _ (List.getElem_mem hlt)) (hS.tok _ (List.getElem_mem hlt))
               have HL:Hid (zs.length<=140737488355328):=by have:=(hG.at_ 9 _ (List.getElem_mem hlt)).lim;show _<=_;omega
               generalize (E 9)[j]=x at *
               obtain ⟨xt,xz,xg,xN,xa,xc,xcs⟩:=x
               simp only [HE.fst,HE.snd] at hcl hcw hN HR
               subst hN
               have HR':Hid (∀ n,TkRow (wr.drewN n) (some ⟨xg,0,none⟩) zs/\TkRow (wr.drewN n) xa zs):=HR
               clear HR
               go_wp2
               go_quiet ((go_at_call 14;(exact Calls.quiet_of (sametoks_h (some ⟨xg,0,none⟩) xa zs.length zs.length zs.length xc zs (wr.drewN _) rfl rfl HL.out (HR'.out _).1 (HR'.out _).2))))
               go_wp2
               go_roundw
               case rel=>exact ⟨j+1,by go_num,by omega,hG.later (bDn (Below.refl _ _) _),bDn hst _⟩
               case measure=>simp [intOf];omega
              ·obtain ⟨a20,c20,v20⟩:=hemp 20 (by decide) (by decide) (by decide) (by decide)
               have k20:=hG.cell (i:=20) (by omega)
               rw [v20] at k20
               obtain ⟨a21,c21,v21⟩:=hemp 21 (by decide) (by decide) (by decide) (by decide)
               have k21:=hG.cell (i:=21) (by omega)
               rw [v21] at k21
               clear hG
               go_wp2
               go_quiet ((go_at_call 60;(exact Calls.quiet_of_same (sametrees_h _ _ _ _ _))))
               go_wp2
               go_ret
               exact ⟨rfl,bDn hst _⟩
def tyT:Nat->TypeId:=fun i=>if i=18∨i=19 then 52 else tyG i
theorem tyT_q:∀ i,38≠tyT i:=fun i=>by
 unfold tyT
 split
 ·decide
 ·exact tyG_q i
theorem tyT_other {t:TypeId}(h:∀ i,t≠tyG i)(ht:t≠52):∀ i,t≠tyT i:=fun i=>by
 unfold tyT
 split
 ·exact ht
 ·exact h i
theorem hl_nilT (t:TypeId)(w:World):HL t w hNil []:=HL.nil _ _
theorem inv_tok {w:World}{q:Nat}{V:Nat->Value}{E:Nat->List HE}(h:HInv w q V tyG E)(hS:StG E):HInv w q V tyT E:=by
 have e9:E 9=[]:=hS.no 9 (by decide) (by decide) (by decide)
 have nil:∀ i,i=18∨i=19->Go.Proofs.YteciabdjkaackaaGreat.hS E i=[]/\V i=hNil:=fun i hi=>by
  have e:Go.Proofs.YteciabdjkaackaaGreat.hS E i=[]:=by
   unfold Go.Proofs.YteciabdjkaackaaGreat.hS
   rcases hi with rfl | rfl<;>simp [e9]
  exact ⟨e,h.nl i e⟩
 refine ⟨h.hq,fun i=>?_,h.apart,h.at_,tyT_q,fun κ e he=>?_,h.nl⟩
 ·by_cases hi:i=18∨i=19
  ·obtain ⟨n1,n2⟩:=nil i hi
   show HL (tyT i) w (V i) (Go.Proofs.YteciabdjkaackaaGreat.hS E i)
   rw [n1,n2]
   exact hl_nilT _ _
  ·have:=h.row i
   unfold tyT
   rw [if_neg hi]
   exact this
 ·obtain ⟨k1,k2⟩:=h.te κ e he
  refine ⟨k1,tyT_other k2 ?_⟩
  by_cases c1:κ=1
  ·subst c1;rw [(hS.int e he).1];decide
  ·by_cases c2:κ=2
   ·subst c2;rw [(hS.str e he).1];decide
   ·by_cases c4:κ=4
    ·subst c4;rw [(hS.sym e he).1];decide
    ·rw [hS.no κ c1 c2 c4] at he;cases he
structure HGT (B:Nat)(w0:World)(q:Nat)(n1 n2 n4 n9:Nat)(w:World):Prop where
 ex:∃ V E,HInv w q V tyT E/\StGT E/\(E 1).length=n1/\(E 2).length=n2/\(E 4).length=n4/\(E 9).length=n9
 bel:Below B w0 w
 sz:B<=w.heap.size
theorem HGT.later {B:Nat}{w0 w w':World}{q n1 n2 n4 n9:Nat}(h:HGT B w0 q n1 n2 n4 n9 w)(hb:Below w.heap.size w w'):HGT B w0 q n1 n2 n4 n9 w':=by
 obtain ⟨V,E,k1,k2⟩:=h.ex
 exact ⟨⟨V,E,k1.later hb,k2⟩,h.bel.trans (hb.mono h.sz),Nat.le_trans h.sz hb.size⟩
def OkTk (t:TypeId):Prop:=OkT t/\t≠52
theorem hg_tok {B:Nat}{w0 w:World}{q:Nat}{V:Nat->Value}{E:Nat->List HE}{n1 n2 n4:Nat}(h:HG B w0 w q V E n1 n2 n4)(ao:Option Addr)(cap:Nat)(xs:List (Int×ByteArray))(hl:xs.length<=5864062014000)(hr:TkRow w ao xs) :
  Calls Tryz.prog 27 #[.pointer (some ⟨q,0,none⟩),.slice ao xs.length cap] w fun e w'=>e=.returned (.slice (some ⟨w.heap.size,0,none⟩) xs.length (xs.length+3))/\HGT B w0 q n1 n2 n4 1 w'/\TkRow w' (some ⟨w.heap.size,0,none⟩) xs/\w.heap.size<=w'.heap.size/\(∀ (b:Nat) (C:Array Value) (t:TypeId),w.heap[b]?=some (.cells C t (0,0))->OkTk t->w'.heap[b]?=w.heap[b]?):=by
 have e9:E 9=[]:=h.st.no 9 (by decide) (by decide) (by decide)
 have hI0:=inv_tok h.inv h.st
 refine (htokens q V tyT E ao _ cap xs w rfl hl hr hI0 (by rw [e9];exact Nat.zero_le _) rfl rfl ⟨by decide,tyT_other (OkT.ty (t:=23) (by unfold OkT;decide)).2 (by decide)⟩).mono ?_
 rintro e w' ⟨rfl,V',x,hI,hg,ht,hz,⟨zs,hc,hk⟩,hf⟩
 have hb:=hf.below h.sz h.q h.lo
 refine ⟨rfl,⟨⟨V',updE E 9 x,hI,⟨fun e he=>?_,fun e he=>?_,fun e he=>?_,fun e he=>?_,fun κ k1 k2 k4 k9=>?_⟩,by rw [upd_other _ _ (by decide)];exact h.l1,by rw [upd_other _ _ (by decide)];exact h.l2,by rw [upd_other _ _ (by decide)];exact h.l4,by rw [upd_same];simp [e9]⟩,h.bel.trans hb,Nat.le_trans h.sz hf.size⟩,?_,hf.size,fun b C t hbk hok=>hI0.other hf hbk ⟨hok.1.1,tyT_other hok.1.ty.2 hok.2⟩⟩
 ·rw [upd_other _ _ (by decide)] at he;exact h.st.int e he
 ·rw [upd_other _ _ (by decide)] at he;exact h.st.str e he
 ·rw [upd_other _ _ (by decide)] at he;exact h.st.sym e he
 ·rw [upd_same,e9] at he
  simp at he
  subst he
  exact ⟨ht,hz,zs,hc⟩
 ·rw [upd_other _ _ k9];exact h.st.no κ k1 k2 k4
 ·have ha:=(hI.at_ 9 x (by rw [upd_same];simp)).hg
  rw [hc,ht,hg] at ha
  exact FullT.rowTake ⟨ha⟩ hk
theorem HGT.intact {B:Nat}{w0 w:World}{q n1 n2 n4 n9:Nat}(h:HGT B w0 q n1 n2 n4 n9 w)(h1:n1<=5864062014720)(h2:n2<=5864062014720)(h4:n4<=5864062014720)(h9:n9<=5864062014720):Calls Tryz.prog 23 #[.pointer (some ⟨q,0,none⟩)] w fun e w'=>e=.returned (.bool true)/\Below w.heap.size w w':=by
 obtain ⟨V,E,k1,k2,k3,k4,k5,k6⟩:=h.ex
 exact gintactK q V tyT E w k1 k2 (by omega) (by omega) (by omega) (by omega)
end Go.Proofs.YteciabdjkaackaaGreat
