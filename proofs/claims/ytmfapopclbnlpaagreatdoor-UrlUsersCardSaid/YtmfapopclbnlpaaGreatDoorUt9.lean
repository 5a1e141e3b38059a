import Derived.Test.YtmfapopclbnlpaaGreatDoorRows
import Derived.WalkKit
import Derived.WalkSpells
import Derived.WalkLawsBesides
import Derived.Lib.Hide
import Derived.Deep.QuietTactic
import Derived.BigQuiet
import Derived.WalkSmall
import Derived.Test.YtmfapopclbnlpaaGreatDoorUt8
set_option linter.unusedVariables false
set_option linter.unusedSimpArgs false
namespace Go.Proofs.YtmfapopclbnlpaaGreatDoor
open Go.RowKit
def eW(b:UInt8):Value:=.int .u8 (b.toNat:Int)
theorem gZ {n:Int}(h0:0≤n)(h1:n≤255):eW (kh n)=.int .u8 n:=by unfold eW;rw [eV h0 h1]
def Cells(w:World)(b off n:Nat)(f:Nat→Value):Prop:=∀i,i<n→w.cell? ⟨b,off+i,none⟩=some (f i)
theorem Cells.at {w:World}{b off n:Nat}{f:Nat→Value}(h:Cells w b off n f)(i:Nat)(hi:i<n):w.cell? ⟨b,off+i,none⟩=some (f i):=h i hi
theorem Cells.lt {w:World}{b off n:Nat}{f:Nat→Value}(h:Cells w b off n f)(hn:0<n):b<w.heap.size:=
 World.block_lt_of_cell? w _ (h 0 hn)
def jr(w:World)(v:Value)(n:Nat)(f:Nat→Value):Prop:=
 ∃a cap,v=.slice a n cap∧n≤cap∧cap≤maxLen∧(a=none→cap=0)∧(0<n→∃b off,a=some ⟨b,off,none⟩∧Cells w b off n f)
def nh(l:List UInt8)(i:Nat):Value:=.int .u8 (aK l i)
def od(w:World)(v:Value)(l:List UInt8):Prop:=jr w v l.length (nh l)
def wC(l:List Int)(i:Nat):Value:=.int .i32 (l.getD i 0)
def wD(w:World)(v:Value)(l:List Int):Prop:=jr w v l.length (wC l)
theorem Cells.below {w w':World}{B b off n:Nat}{f:Nat→Value}(h:Cells w b off n f)(hw:Below B w w')(hb:b<B):Cells w' b off n f:=by
 intro i hi
 rw [hw.cell (p:=⟨b,off+i,none⟩) hb];exact h i hi
theorem Cells.le {w:World}{b off n m:Nat}{f:Nat→Value}(h:Cells w b off n f)(hm:m≤n):Cells w b off m f:=fun i hi=>h i (by omega)
theorem Cells.drop {w:World}{b off n:Nat}{f:Nat→Value}(h:Cells w b off n f)(k m:Nat)(hm:k+m≤n):Cells w b (off+k) m (fun i=>f (k+i)):=by
 intro i hi
 have:=h (k+i) (by omega)
 rwa [←Nat.add_assoc]at this
theorem jr.below {w w':World}{v:Value}{n:Nat}{f:Nat→Value}(h:jr w v n f)(hw:Below w.heap.size w w'):jr w' v n f:=by
 obtain ⟨a,cap,hv,h1,h2,h4,h3⟩:=h
 refine ⟨a,cap,hv,h1,h2,h4,fun hn=>?_⟩
 obtain ⟨b,off,ha,hc⟩:=h3 hn
 exact ⟨b,off,ha,hc.below hw (hc.lt hn)⟩
theorem jr.drew {w:World}{v:Value}{n k:Nat}{f:Nat→Value}(h:jr w v n f):jr (w.drewN k) v n f:=h
theorem od.drew {w:World}{v:Value}{l:List UInt8}(h:od w v l)(k:Nat):od (w.drewN k) v l:=h
theorem wD.drew {w:World}{v:Value}{l:List Int}(h:wD w v l)(k:Nat):wD (w.drewN k) v l:=h
theorem od.below {w w':World}{v:Value}{l:List UInt8}(h:od w v l)(hw:Below w.heap.size w w'):od w' v l:=jr.below h hw
theorem wD.below {w w':World}{v:Value}{l:List Int}(h:wD w v l)(hw:Below w.heap.size w w'):wD w' v l:=jr.below h hw
theorem bu {a b c:World}(h:Below a.heap.size a b)(k:Below b.heap.size b c):Below a.heap.size a c:=h.trans (k.mono h.size)
theorem fK {B:Nat}{a w:World}(h:RowKit.Below B a w)(n:Nat):RowKit.Below B a (w.drewN n):=h.trans ⟨rfl,rfl,rfl,Nat.le_refl _,fun _ _=>rfl⟩
theorem cn(w:World)(n:Nat):Below w.heap.size w (w.drewN n):=fK (Below.refl _ _) n
def IZ(k:IntKind)(w:World)(a:Option Addr)(len cap:Nat)(zs:List Int):Prop:=
 (a=none∧len=0∧cap=0∧zs=[])∨
 ∃x,a=some x∧len≤cap∧cap≤maxLen∧zs.length=cap∧(∀i,i<zs.length→w.cell? (x.add i)=some (.int k (zs.getD i 0)))∧∀n∈zs,(Lit.int k n).wf=true
theorem addr_add(g j:Nat):Addr.add ⟨g,0,none⟩ j=⟨g,j,none⟩:=by unfold Addr.add;split<;>simp_all
theorem l7(g o j:Nat):Addr.add ⟨g,o,none⟩ j=⟨g,o+j,none⟩:=by unfold Addr.add;split<;>simp_all
def KH(w w':World):Prop:=Below w.heap.size w w'
theorem Cs(w:World):KH w w:=Below.refl _ _
theorem ES(w:World)(p:Prop):(∀w',KH w w'→p)=p:=propext ⟨fun h=>h w (Cs w),fun h _ _=>h⟩
attribute [simp,go_sem] ES
theorem od.ET {w:World}{b off cap:Nat}{l:List UInt8}(h:Cells w b off l.length (nh l))(k:Nat)(hk:k<l.length)(hc:l.length≤cap)(hm:cap≤maxLen):
 od w (.slice (some ⟨b,off+k,none⟩) (l.length-k) (cap-k)) (l.drop k):=by
 refine ⟨_,_,by rw [List.length_drop],by simp;omega,by omega,(fun h=>by cases h),fun _=>⟨b,off+k,rfl,?_⟩⟩
 have:=h.drop k (l.drop k).length (by simp;omega)
 intro i hi
 rw [this i hi]
 simp [nh,ED]
theorem K7 {a b c a' b' c':Int}(h:(a,b,c)=(a',b',c')):Ending.returned (.tuple #[.int .i64 a,.int .u8 b,.int .u8 c])=Ending.returned (.tuple #[.int .i64 a',.int .u8 b',.int .u8 c']):=by
 cases h;rfl
set_option maxHeartbeats 400000 in
theorem sL(c:Int)(w:World)(h0:0≤c)(h1:c≤255):
 Calls Tryz.prog 143 #[.int .u8 c] w fun e w'=>e=.returned (.tuple #[.int .i64 (oN c).1,.int .u8 (oN c).2.1,.int .u8 (oN c).2.2])∧w=w':=by
 go_enter Tryz.func143,Tryz.ntmps143
 go_wp2
 all_goals
  go_ret3
  simp only [beq_iff_eq,beq_eq_false_iff_ne]at *
  refine ⟨K7 ?_,by trivial⟩
  unfold oN
  (repeat' split)<;>first|rfl|(exfalso;omega)
def uq(l:List UInt8)(e:Ending):Prop:=e=.returned (.tuple #[.int .i32 (bC l).1,.int .i64 ((bC l).2.1:Nat),.bool (bC l).2.2])
theorem kW {l:List UInt8}{r:Int}{n:Int}{m:Nat}{b:Bool}(h:bC l=(r,m,b))(hn:n=m):uq l (.returned (.tuple #[.int .i32 r,.int .i64 n,.bool b])):=by unfold uq;rw [h,hn]
set_option maxHeartbeats 2000000 in
theorem wE(v:Value)(l:List UInt8)(w:World)(hv:od w v l)(hm:l.length≤1000000):
 Calls Tryz.prog 100 #[v] w fun e w'=>e=.returned (.tuple #[.int .i32 (bC l).1,.int .i64 ((bC l).2.1:Nat),.bool (bC l).2.2])∧∃n,w'=w.drewN n:=by
 suffices hsuf:Calls Tryz.prog 100 #[v] w fun e w'=>uq l e∧∃n,w'=w.drewN n from hsuf
 obtain ⟨a,cap,rfl,hc1,hc2,-,hs⟩:=hv
 by_cases hn:l.length=0
 ·have hN:bC l=(0,0,false):=by unfold bC;rw [if_pos hn]
  rw [hn]
  have hE:=fun n (h:n=_)=>kW (n:=n) hN h
  clear hs hN
  have HE:=Lib.hid hE
  clear hE
  go_enter Tryz.func100,Tryz.ntmps100
  go_wp2
  go_ret3
  exact ⟨HE.out _ rfl,0,rfl⟩
 obtain ⟨b,off,rfl,hc⟩:=hs (by omega)
 have hne:((l.length:Int)==0)=false:=by rw [beq_eq_false_iff_ne];omega
 have hp:(0:Int)<(l.length:Int):=by omega
 have h0:w.cell? ⟨b,off,none⟩=some (.int .u8 (aK l 0)):=by simpa [nh]using hc.at 0 (by omega)
 have hb:=dA l 0
 have hb0:=dy l 0
 have hlm:l.length≤9223372036854775807:=by unfold maxLen at hc2;omega
 by_cases hlow:aK l 0≤127
 ·have hN:bC l=(aK l 0,1,true):=by unfold bC;rw [if_neg hn,if_pos hlow]
  have hE:=fun n (h:n=_)=>kW (n:=n) hN h
  clear hs hN
  have HE:=Lib.hid hE
  clear hE
  go_enter Tryz.func100,Tryz.ntmps100
  go_wp2
  go_ret3
  exact ⟨HE.out _ rfl,0,rfl⟩
 unfold maxLen at hc2
 rcases sF (aK l 0)with h|⟨m,lo,hi,h,h1,h2,h3,h4,h5,h6⟩
 ·have hN:bC l=(65533,1,false):=by unfold bC;rw [if_neg hn,if_neg hlow,h,if_pos rfl]
  have hE:=fun n (h:n=_)=>kW (n:=n) hN h
  clear hs hN
  have HE:=Lib.hid hE
  clear hE
  go_enter Tryz.func100,Tryz.ntmps100
  go_wp2_with (go_at_call 143;refine (sL _ _ (by omega) (by omega)).mono ?_;rintro e w' ⟨rfl,rfl⟩;rw [h];clear h)
  go_ret3
  exact ⟨HE.out _ rfl,0,rfl⟩
 have h7:(m==0)=false:=by simp;omega
 obtain ⟨J,hJ⟩:∃J:Nat,m=(J:Int):=⟨m.toNat,by omega⟩
 have HJ:=Lib.hid hJ
 have hJ1:1≤J:=by omega
 have hJ3:J≤3:=by omega
 have HN:Hid (bC l=nl l m.toNat 1 (aK l 0 %2^(6-m.toNat)) lo hi):=by unfold bC;rw [if_neg hn,if_neg hlow,h,if_neg (show ¬m=0 by omega)];exact Lib.hid rfl
 have HC:=Lib.hid hc
 clear hs hc hJ
 go_enter Tryz.func100,Tryz.ntmps100
 go_wp2_with (go_at_call 143;refine (sL _ _ (by omega) (by omega)).mono ?_;rintro e w' ⟨rfl,rfl⟩;rw [h];clear h)
 obtain rfl|rfl|rfl:m=1∨m=2∨m=3:=by omega
 all_goals
  go_quiet (fail)
  go_wp2
  go_loop [6,7,8,9] (fun tl th tr ti=>∃(j k:Nat) (R L H:Int),1≤k∧k+j=J+1∧ti=.int .i64 k∧tr=.int .i32 R∧tl=.int .u8 L∧th=.int .u8 H∧
   0≤R∧R<JG k∧0≤L∧L≤255∧0≤H∧H≤255∧Hid (bC l=nl l j k R L H)) (fun _ _ _ ti=>5-(intOf ti).toNat)
  case atStart=>
   have hJ:=HJ.out
   obtain rfl:=Int.ofNat_inj.1 hJ
   exact ⟨_,1,_,_,_,by omega,by omega,rfl,rfl,rfl,rfl,by omega,by unfold JG;rw [if_pos (by omega)];omega,by omega,by omega,by omega,by omega,HN.out⟩
  case round=>
   obtain ⟨j,k,R,L,H,hk1,hkj,rfl,rfl,rfl,rfl,hR0,hR,hL0,hL1,hH0,hH1,HR⟩:=hrel
   have hk5:k<5:=by omega
   have hbk:=dy l k
   have hbk1:=dA l k
   rcases j with _ |j
   ·have hlt:¬(k:Int)≤J:=by omega
    have hd:=HJ.out
    rw [←hd]at hlt
    have HK:=Lib.hid hkj
    clear hd hkj
    go_wp2
    go_ret3
    exact ⟨kW (HR.out.trans iW) (by have:=HJ.out;have:=HK.out;omega),nq,rfl⟩
   ·have hlt:(k:Int)≤J:=by omega
    have hd:=HJ.out
    rw [←hd]at hlt
    clear hd
    have hR2:=Int.lt_of_lt_of_le hR (JH (show k≤3 by omega))
    have HS:=EE (x:=aK l k) hk1 (show k≤3 by omega) hR
    clear hR
    by_cases hlen:k<l.length
    ·have hcell:w.cell? ⟨b,off+k,none⟩=some (.int .u8 (aK l k)):=HC.out.at k hlen
     by_cases hlo:L≤aK l k
     ·by_cases hhi:aK l k≤H
      ·go_wp2
       go_round
       case rel=>exact ⟨j,k+1,_,_,_,by omega,by omega,by go_num,rfl,rfl,rfl,by omega,HS,by omega,by omega,by omega,by omega,HR.out.trans (iX ⟨hlen,hlo,hhi⟩)⟩
       case measure=>simp [intOf];omega
      ·go_wp2
       go_ret3
       exact ⟨kW (HR.out.trans (wc (by omega))) rfl,nq,rfl⟩
     ·go_wp2
      go_ret3
      exact ⟨kW (HR.out.trans (wc (by omega))) rfl,nq,rfl⟩
    ·go_wp2
     go_ret3
     exact ⟨kW (HR.out.trans (wc (by omega))) rfl,nq,rfl⟩
end Go.Proofs.YtmfapopclbnlpaaGreatDoor
