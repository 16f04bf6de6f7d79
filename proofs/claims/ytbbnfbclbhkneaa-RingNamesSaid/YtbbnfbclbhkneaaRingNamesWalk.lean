/- Layer 4, RingNames: its walk stands in RingAll. -/
import Derived.Test.YtbbnfbclbhkneaaRingAll
