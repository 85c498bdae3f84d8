package tests

import (
	"fmt"
	"math"
	"math/rand"
	"slices"
	"testing"

	"loop.example/g00548/impl"
)

var (
	rightSectors = []int{0, 1, 17, impl.Sectors - 2, impl.Sectors - 1}
	wrongSectors = []int{math.MinInt, -impl.Sectors, -2, -1, impl.Sectors, impl.Sectors + 1, math.MaxInt}
	wrongFates   = []int{math.MinInt, -256, -3, -2, -1, 3, 4, 256, 257, math.MaxInt}
	wrongFlips   = []int{math.MinInt, -256, -255, -1, 0, 256, 257, 511, 512, math.MaxInt}
	fatesByNames = []int{impl.FaDrop, impl.FaKeep, impl.FaTear}
)

// deviceOf has the texts at the sectors from 0 on, and these writes.
func deviceOf(sure []string, writes ...impl.Io) impl.Device {
	d := impl.Device{Sure: make([]string, 40), Unsure: writes}
	copy(d.Sure, sure)
	return d
}

// someDevice has sectors of many lengths, writes at some of them, and several
// writes at one.
func someDevice() impl.Device {
	d := deviceOf(nil)
	for at := range d.Sure {
		d.Sure[at] = textOf(at * 700 / 39)
	}
	for i, at := range []int{3, 5, 3, 39, 0, 3, 20, 5} {
		d.Unsure = append(d.Unsure, impl.Io{At: at, Data: textOf(90*i + 1)})
	}
	return d
}

// deviceByChance has texts of few bytes, so that halves and whole texts meet
// in all their orders of length.
func deviceByChance(r *rand.Rand, writes int) impl.Device {
	short := func() string {
		out := make([]byte, r.Intn(9))
		for i := range out {
			out[i] = byte('a' + r.Intn(26))
		}
		return string(out)
	}
	d := deviceOf(nil)
	for at := range d.Sure {
		d.Sure[at] = short()
	}
	for range writes {
		d.Unsure = append(d.Unsure, impl.Io{At: r.Intn(6) * 39 / 5, Data: short()})
	}
	return d
}

func fatesByChance(r *rand.Rand, n int) []int {
	fates := make([]int, n)
	for i := range fates {
		fates[i] = r.Intn(3)
	}
	return fates
}

func writesOf(n int) []impl.Io {
	writes := make([]impl.Io, n)
	for i := range writes {
		writes[i] = impl.Io{At: i % 40, Data: fmt.Sprint("write ", i)}
	}
	return writes
}

// badDevices are all that is not right, each in one thing alone.
func badDevices() map[string]impl.Device {
	bad := map[string]impl.Device{
		"none":                 {},
		"empty lists":          {Sure: []string{}, Unsure: []impl.Io{}},
		"writes alone":         {Unsure: writesOf(3)},
		"one sector":           {Sure: make([]string, 1)},
		"39 sectors":           {Sure: make([]string, 39)},
		"41 sectors":           {Sure: make([]string, 41)},
		"80 sectors":           {Sure: make([]string, 80)},
		"sectors to MaxList":   {Sure: make([]string, impl.MaxList)},
		"sectors over MaxList": {Sure: make([]string, impl.MaxList+1)},
		"61 writes":            deviceOf(nil, writesOf(61)...),
		"62 writes":            deviceOf(nil, writesOf(62)...),
		"writes to MaxList":    deviceOf(nil, writesOf(impl.MaxList)...),
		"writes over MaxList":  deviceOf(nil, writesOf(impl.MaxList+1)...),
	}
	for _, n := range []int{701, 702, impl.MaxText, impl.MaxText + 1} {
		for _, at := range []int{0, 20, 39} {
			d := someDevice()
			d.Sure[at] = textOf(n)
			bad[fmt.Sprintf("sector %d of %d bytes", at, n)] = d
		}
		for _, i := range []int{0, 4, 7} {
			d := someDevice()
			d.Unsure[i].Data = textOf(n)
			bad[fmt.Sprintf("write %d of %d bytes", i, n)] = d
		}
	}
	for _, at := range wrongSectors {
		for _, i := range []int{0, 4, 7} {
			d := someDevice()
			d.Unsure[i].At = at
			bad[fmt.Sprintf("write %d at %d", i, at)] = d
		}
	}
	return bad
}

func keptDevice(d impl.Device) impl.Device {
	return impl.Device{Sure: slices.Clone(d.Sure), Unsure: slices.Clone(d.Unsure)}
}

func isZeroDevice(d impl.Device) bool {
	return len(d.Sure) == 0 && len(d.Unsure) == 0
}

// unlike tells where two devices are not alike; it is empty if they are.
func unlike(a, b impl.Device) string {
	if len(a.Sure) != len(b.Sure) || len(a.Unsure) != len(b.Unsure) {
		return fmt.Sprintf("%d sectors and %d writes, not %d and %d", len(a.Sure), len(a.Unsure), len(b.Sure), len(b.Unsure))
	}
	for i := range a.Sure {
		if a.Sure[i] != b.Sure[i] {
			return fmt.Sprintf("sector %d: %.40q, not %.40q", i, a.Sure[i], b.Sure[i])
		}
	}
	for i := range a.Unsure {
		if a.Unsure[i] != b.Unsure[i] {
			return fmt.Sprintf("write %d: %.40v, not %.40v", i, a.Unsure[i], b.Unsure[i])
		}
	}
	return ""
}

func plainTorn(sure, data string) string {
	half := len(data) / 2
	if len(sure) <= half {
		return data[:half]
	}
	return data[:half] + sure[half:]
}

// plainCrash goes by sectors, not by writes as the program does.
func plainCrash(d impl.Device, fates []int) impl.Device {
	out := deviceOf(d.Sure)
	for at := range out.Sure {
		for i, write := range d.Unsure {
			if write.At != at || len(fates) == 0 {
				continue
			}
			if fate := fates[i%len(fates)]; fate == 1 {
				out.Sure[at] = write.Data
			} else if fate == 2 {
				out.Sure[at] = plainTorn(out.Sure[at], write.Data)
			}
		}
	}
	return out
}

func readsAs(t *testing.T, d impl.Device, at int, want string) {
	t.Helper()
	if text, code := impl.ReadAt(d, at); text != want || code != impl.OK {
		t.Errorf("ReadAt %d: %.40q %d, not %.40q", at, text, code, want)
	}
}

func writeAt(t *testing.T, d impl.Device, at int, text string) impl.Device {
	t.Helper()
	x, code := impl.WriteAt(d, at, text)
	if code != impl.OK || !impl.DeviceOK(x) {
		t.Errorf("WriteAt %d of %d bytes: %d", at, len(text), code)
	}
	return x
}

func syncAll(t *testing.T, d impl.Device) impl.Device {
	t.Helper()
	x, code := impl.SyncAll(d)
	if code != impl.OK || !impl.DeviceOK(x) || len(x.Unsure) != 0 {
		t.Errorf("SyncAll: %d writes, %d", len(x.Unsure), code)
	}
	return x
}

func crashWith(t *testing.T, d impl.Device, fates []int) impl.Device {
	t.Helper()
	x, code := impl.CrashWith(d, fates)
	if code != impl.OK || !impl.DeviceOK(x) || len(x.Unsure) != 0 {
		t.Errorf("CrashWith %.40v: %d writes, %d", fates, len(x.Unsure), code)
	}
	return x
}

func flipAt(t *testing.T, d impl.Device, at, place, by int) impl.Device {
	t.Helper()
	x, code := impl.FlipAt(d, at, place, by)
	if code != impl.OK || !impl.DeviceOK(x) {
		t.Errorf("FlipAt %d %d %d: %d", at, place, by, code)
	}
	return x
}

func crashAsPlain(t *testing.T, d impl.Device, fates []int) {
	t.Helper()
	if diff := unlike(crashWith(t, d, fates), plainCrash(d, fates)); diff != "" {
		t.Errorf("CrashWith %.40v: %s", fates, diff)
	}
}

// noDevice wants this code, and a zero device.
func noDevice(t *testing.T, call string, x impl.Device, code, want int) {
	t.Helper()
	if !isZeroDevice(x) || code != want {
		t.Errorf("%s: %d sectors, %d writes, %d, not %d", call, len(x.Sure), len(x.Unsure), code, want)
	}
}

func noRead(t *testing.T, d impl.Device, at, want int) {
	t.Helper()
	if text, code := impl.ReadAt(d, at); text != "" || code != want {
		t.Errorf("ReadAt %d: %.40q %d, not %d", at, text, code, want)
	}
}

func noWrite(t *testing.T, d impl.Device, at int, text string, want int) {
	t.Helper()
	x, code := impl.WriteAt(d, at, text)
	noDevice(t, fmt.Sprintf("WriteAt %d of %d bytes", at, len(text)), x, code, want)
}

func noCrash(t *testing.T, d impl.Device, fates []int, want int) {
	t.Helper()
	x, code := impl.CrashWith(d, fates)
	noDevice(t, fmt.Sprintf("CrashWith %.40v", fates), x, code, want)
}

func noFlip(t *testing.T, d impl.Device, at, place, by, want int) {
	t.Helper()
	x, code := impl.FlipAt(d, at, place, by)
	noDevice(t, fmt.Sprintf("FlipAt %d %d %d", at, place, by), x, code, want)
}

// stays wants this code, and the device as it was.
func stays(t *testing.T, call string, x, d impl.Device, code, want int) {
	t.Helper()
	if diff := unlike(x, d); diff != "" || code != want {
		t.Errorf("%s: %s, %d, not %d", call, diff, code, want)
	}
}

func writeStays(t *testing.T, d impl.Device, at int, text string, want int) {
	t.Helper()
	x, code := impl.WriteAt(d, at, text)
	stays(t, fmt.Sprintf("WriteAt %d of %d bytes", at, len(text)), x, d, code, want)
}

func flipStays(t *testing.T, d impl.Device, at, place, by int) {
	t.Helper()
	x, code := impl.FlipAt(d, at, place, by)
	stays(t, fmt.Sprintf("FlipAt %d %d %d", at, place, by), x, d, code, impl.ErrNone)
}

func TestBoundsOfDevices(t *testing.T) {
	if impl.Sectors != 40 || impl.SectorSize != 700 || impl.MaxUnsure != 60 {
		t.Error(impl.Sectors, impl.SectorSize, impl.MaxUnsure)
	}
	if impl.FaDrop != 0 || impl.FaKeep != 1 || impl.FaTear != 2 {
		t.Error(impl.FaDrop, impl.FaKeep, impl.FaTear)
	}
}

func TestNewDevice(t *testing.T) {
	d := impl.NewDevice()
	if !impl.DeviceOK(d) || len(d.Sure) != 40 || len(d.Unsure) != 0 {
		t.Fatal(d)
	}
	for at := range 40 {
		readsAs(t, d, at, "")
		flipStays(t, d, at, 0, 1)
	}
	d.Sure[0], d.Sure[39] = "x", "y"
	if x := impl.NewDevice(); x.Sure[0] != "" || x.Sure[39] != "" {
		t.Error("a new device is not new", x)
	}
}

func TestRightDevices(t *testing.T) {
	for i, d := range []impl.Device{
		impl.NewDevice(),
		someDevice(),
		deviceOf(nil),
		{Sure: make([]string, 40), Unsure: []impl.Io{}},
		{Sure: make([]string, 40, 50), Unsure: make([]impl.Io, 0, 100)},
		deviceOf(nil, writesOf(59)...),
		deviceOf(nil, writesOf(60)...),
		deviceOf(slices.Repeat([]string{textOf(700)}, 40), slices.Repeat([]impl.Io{{At: 39, Data: textOf(700)}}, 60)...),
		deviceOf(nil, impl.Io{At: 0}, impl.Io{At: 39}),
	} {
		if !impl.DeviceOK(d) {
			t.Error("DeviceOK", i)
		}
		syncAll(t, d)
		crashWith(t, d, nil)
		if _, code := impl.ReadAt(d, 39); code != impl.OK {
			t.Error("ReadAt", i, code)
		}
	}
}

func TestBadDevices(t *testing.T) {
	for name, d := range badDevices() {
		t.Run(name, func(t *testing.T) {
			if impl.DeviceOK(d) {
				t.Error("DeviceOK")
			}
			for _, at := range slices.Concat(rightSectors, wrongSectors) {
				noRead(t, d, at, impl.ErrBad)
				for _, n := range []int{0, 1, 700, 701, impl.MaxText} {
					noWrite(t, d, at, textOf(n), impl.ErrBad)
				}
				for _, by := range slices.Concat(wrongFlips, []int{1, 255}) {
					noFlip(t, d, at, 0, by, impl.ErrBad)
					noFlip(t, d, at, -1, by, impl.ErrBad)
					noFlip(t, d, at, math.MaxInt, by, impl.ErrBad)
				}
			}
			x, code := impl.SyncAll(d)
			noDevice(t, "SyncAll", x, code, impl.ErrBad)
			for _, fates := range [][]int{nil, {}, {0}, {1}, {2}, {0, 1, 2}, {-1}, {3}, make([]int, impl.MaxList)} {
				noCrash(t, d, fates, impl.ErrBad)
			}
		})
	}
}

func TestTheNewestWriteIsRead(t *testing.T) {
	d := someDevice()
	for at := range 40 {
		want := d.Sure[at]
		for _, write := range d.Unsure {
			if write.At == at {
				want = write.Data
			}
		}
		readsAs(t, d, at, want)
	}
	d = deviceOf([]string{"sure", "also"}, impl.Io{At: 0, Data: "first"}, impl.Io{At: 1, Data: "else"}, impl.Io{At: 0, Data: "second"})
	readsAs(t, d, 0, "second")
	readsAs(t, d, 1, "else")
	readsAs(t, d, 2, "")
	// An empty text is a write too.
	d.Unsure = append(d.Unsure, impl.Io{At: 0})
	readsAs(t, d, 0, "")
	readsAs(t, d, 1, "else")
}

func TestReadsAtNoSector(t *testing.T) {
	for _, d := range []impl.Device{impl.NewDevice(), someDevice(), deviceOf(nil, writesOf(60)...)} {
		for _, at := range wrongSectors {
			noRead(t, d, at, impl.ErrRange)
		}
		for _, at := range rightSectors {
			if _, code := impl.ReadAt(d, at); code != impl.OK {
				t.Error("ReadAt", at, code)
			}
		}
	}
}

func TestWritesAreBehindAllOthers(t *testing.T) {
	for _, at := range rightSectors {
		for _, n := range []int{0, 1, 2, 699, 700} {
			for _, d := range []impl.Device{impl.NewDevice(), someDevice()} {
				want := keptDevice(d)
				want.Unsure = append(want.Unsure, impl.Io{At: at, Data: textOf(n)})
				x := writeAt(t, d, at, textOf(n))
				if diff := unlike(x, want); diff != "" {
					t.Errorf("WriteAt %d of %d bytes: %s", at, n, diff)
				}
				readsAs(t, x, at, textOf(n))
			}
		}
	}
}

func TestWritesAtNoSector(t *testing.T) {
	for _, d := range []impl.Device{impl.NewDevice(), someDevice(), deviceOf(nil, writesOf(60)...)} {
		for _, at := range wrongSectors {
			for _, n := range []int{0, 1, 700, 701, impl.MaxText} {
				noWrite(t, d, at, textOf(n), impl.ErrRange)
			}
		}
	}
}

func TestTextsThatFitNoSector(t *testing.T) {
	for _, d := range []impl.Device{impl.NewDevice(), someDevice(), deviceOf(nil, writesOf(59)...), deviceOf(nil, writesOf(60)...)} {
		for _, at := range rightSectors {
			for _, n := range []int{701, 702, 1400, impl.MaxText - 1, impl.MaxText} {
				writeStays(t, d, at, textOf(n), impl.ErrSize)
			}
		}
	}
}

func TestLongTextsAreNotWritten(t *testing.T) {
	devices := []impl.Device{impl.NewDevice(), someDevice(), deviceOf(nil, writesOf(60)...)}
	for _, d := range badDevices() {
		devices = append(devices, d)
	}
	for _, n := range []int{impl.MaxText + 1, 2 * impl.MaxText} {
		long := textOf(n)
		for _, d := range devices {
			for _, at := range slices.Concat(rightSectors, wrongSectors) {
				noWrite(t, d, at, long, impl.ErrLong)
			}
		}
	}
}

func TestAFullDevice(t *testing.T) {
	d := impl.NewDevice()
	for i := range 60 {
		d = writeAt(t, d, 7, fmt.Sprint("write ", i))
		if len(d.Unsure) != i+1 {
			t.Fatal("writes", len(d.Unsure), i)
		}
	}
	for _, at := range rightSectors {
		for _, n := range []int{0, 1, 700} {
			writeStays(t, d, at, textOf(n), impl.ErrFull)
		}
	}
	readsAs(t, d, 7, "write 59")
	readsAs(t, syncAll(t, d), 7, "write 59")
	writeAt(t, syncAll(t, d), 7, "again")
	writeAt(t, crashWith(t, d, nil), 7, "again")
	writeAt(t, deviceOf(nil, writesOf(59)...), 0, "the last")
	writeStays(t, deviceOf(nil, writesOf(60)...), 0, "", impl.ErrFull)
	noWrite(t, deviceOf(nil, writesOf(61)...), 0, "", impl.ErrBad)
}

func TestWhatIsSyncedIsSure(t *testing.T) {
	r := rand.New(rand.NewSource(11))
	devices := []impl.Device{impl.NewDevice(), someDevice(), deviceOf(nil, writesOf(60)...)}
	for n := range 61 {
		devices = append(devices, deviceByChance(r, n))
	}
	for _, d := range devices {
		x := syncAll(t, d)
		for at := range 40 {
			newest, _ := impl.ReadAt(d, at)
			if x.Sure[at] != newest {
				t.Errorf("SyncAll: sector %d is %.40q, not %.40q", at, x.Sure[at], newest)
			}
		}
		for _, fates := range [][]int{nil, {0}, {1}, {2}, {2, 0, 1}, make([]int, impl.MaxList)} {
			if diff := unlike(crashWith(t, x, fates), x); diff != "" {
				t.Errorf("CrashWith %.40v of what is synced: %s", fates, diff)
			}
		}
		if diff := unlike(syncAll(t, x), x); diff != "" {
			t.Error("synced twice:", diff)
		}
	}
}

func TestACrashLeavesOtherSectorsAlone(t *testing.T) {
	r := rand.New(rand.NewSource(12))
	for range 200 {
		d := deviceByChance(r, r.Intn(61))
		written := map[int]bool{}
		for _, write := range d.Unsure {
			written[write.At] = true
		}
		x := crashWith(t, d, fatesByChance(r, r.Intn(70)))
		for at := range 40 {
			if !written[at] && x.Sure[at] != d.Sure[at] {
				t.Errorf("sector %d is %q, not %q", at, x.Sure[at], d.Sure[at])
			}
		}
	}
}

func TestCrashesWithoutAWrite(t *testing.T) {
	d := deviceOf(someDevice().Sure)
	for _, fates := range [][]int{nil, {}, {0}, {1}, {2}, {0, 1, 2}, make([]int, impl.MaxList)} {
		if diff := unlike(crashWith(t, d, fates), d); diff != "" {
			t.Errorf("CrashWith %.40v: %s", fates, diff)
		}
	}
}

func TestKnownCrashes(t *testing.T) {
	d := deviceOf([]string{"abcd", "xy", ""}, impl.Io{At: 0, Data: "ABCDE"}, impl.Io{At: 2, Data: "new"}, impl.Io{At: 0, Data: "12"})
	for _, c := range []struct {
		fates []int
		want  []string
	}{
		{nil, []string{"abcd", "xy", ""}},
		{[]int{}, []string{"abcd", "xy", ""}},
		{[]int{0}, []string{"abcd", "xy", ""}},
		{[]int{1}, []string{"12", "xy", "new"}},
		{[]int{2}, []string{"1Bcd", "xy", "n"}},
		{[]int{1, 0}, []string{"12", "xy", ""}},
		{[]int{0, 1}, []string{"abcd", "xy", "new"}},
		{[]int{2, 1}, []string{"1Bcd", "xy", "new"}},
		{[]int{1, 2}, []string{"12", "xy", "n"}},
		{[]int{1, 2, 0}, []string{"ABCDE", "xy", "n"}},
		{[]int{1, 0, 2}, []string{"1BCDE", "xy", ""}},
		{[]int{0, 1, 2}, []string{"1bcd", "xy", "new"}},
		{[]int{2, 2, 0}, []string{"ABcd", "xy", "n"}},
		{[]int{2, 0, 1, 2, 2}, []string{"12", "xy", ""}},
		{[]int{0, 0, 0, 1, 1, 1, 1}, []string{"abcd", "xy", ""}},
	} {
		if diff := unlike(crashWith(t, d, c.fates), deviceOf(c.want)); diff != "" {
			t.Errorf("CrashWith %v: %s", c.fates, diff)
		}
	}
}

func TestTornWrites(t *testing.T) {
	for _, c := range []struct{ sure, data, want string }{
		{"", "", ""}, {"a", "", "a"}, {"abc", "", "abc"},
		{"", "1", ""}, {"a", "1", "a"}, {"abc", "1", "abc"},
		{"", "12", "1"}, {"a", "12", "1"}, {"ab", "12", "1b"}, {"abc", "12", "1bc"},
		{"", "123", "1"}, {"a", "123", "1"}, {"ab", "123", "1b"}, {"abcde", "123", "1bcde"},
		{"", "1234", "12"}, {"a", "1234", "12"}, {"ab", "1234", "12"}, {"abc", "1234", "12c"}, {"abcde", "1234", "12cde"},
		{"a", "12345", "12"}, {"ab", "12345", "12"}, {"abc", "12345", "12c"},
		{"\x00\x00\x00", "\xff\xff", "\xff\x00\x00"}, {"\xff\xff", "\x00\x00", "\x00\xff"},
	} {
		for _, at := range rightSectors {
			d := deviceOf(nil, impl.Io{At: at, Data: c.data})
			d.Sure[at] = c.sure
			want := deviceOf(nil)
			want.Sure[at] = c.want
			if diff := unlike(crashWith(t, d, []int{impl.FaTear}), want); diff != "" {
				t.Errorf("%q torn over %q: %s", c.data, c.sure, diff)
			}
		}
	}
}

func TestTornWritesOfEachLength(t *testing.T) {
	for _, n := range []int{0, 1, 2, 3, 4, 5, 349, 350, 351, 698, 699, 700} {
		half := n / 2
		for _, size := range []int{0, 1, 2, half - 1, half, half + 1, n - 1, n, n + 1, 349, 350, 351, 699, 700} {
			if size < 0 || size > 700 {
				continue
			}
			d := deviceOf([]string{textOf(size)}, impl.Io{At: 0, Data: textOf(n)})
			got := crashWith(t, d, []int{impl.FaTear}).Sure[0]
			if len(got) != max(half, size) || got[:half] != textOf(n)[:half] {
				t.Errorf("%d bytes torn over %d: %d bytes", n, size, len(got))
			}
			if size > half && got[half:] != textOf(size)[half:] {
				t.Errorf("%d bytes torn over %d: another end", n, size)
			}
		}
	}
}

// The second one is torn over what the first one left.
func TestTwoTornWritesAtOneSector(t *testing.T) {
	for _, c := range []struct{ sure, first, second, want string }{
		{"abcdef", "1234", "XY", "X2cdef"},
		{"abcdef", "12", "WXYZ", "WXcdef"},
		{"", "1234", "XY", "X2"},
		{"", "12", "WXYZ", "WX"},
		{"", "1234", "", "12"},
		{"ab", "", "WXYZ", "WX"},
		{"a", "123456", "XY", "X23"},
		{"abcdef", "123456", "UVWXYZ", "UVWdef"},
	} {
		d := deviceOf([]string{c.sure, "else"}, impl.Io{At: 0, Data: c.first}, impl.Io{At: 0, Data: c.second})
		if diff := unlike(crashWith(t, d, []int{impl.FaTear}), deviceOf([]string{c.want, "else"})); diff != "" {
			t.Errorf("%q, %q torn over %q: %s", c.first, c.second, c.sure, diff)
		}
		// A write elsewhere between the two changes nothing there.
		d.Unsure = slices.Insert(d.Unsure, 1, impl.Io{At: 1, Data: "ELSE"})
		if diff := unlike(crashWith(t, d, []int{impl.FaTear}), deviceOf([]string{c.want, "ELse"})); diff != "" {
			t.Errorf("%q, %q torn over %q: %s", c.first, c.second, c.sure, diff)
		}
	}
}

func TestAllFatesOfFourWrites(t *testing.T) {
	d := deviceOf([]string{"abcdefg", "mn"}, impl.Io{At: 0, Data: "12345"}, impl.Io{At: 1, Data: "OPQR"}, impl.Io{At: 0, Data: "XY"}, impl.Io{At: 0, Data: "qwertyuio"})
	for _, a := range fatesByNames {
		crashAsPlain(t, d, []int{a})
		for _, b := range fatesByNames {
			crashAsPlain(t, d, []int{a, b})
			for _, c := range fatesByNames {
				crashAsPlain(t, d, []int{a, b, c})
				for _, e := range fatesByNames {
					crashAsPlain(t, d, []int{a, b, c, e})
					crashAsPlain(t, d, []int{a, b, c, e, b, a})
				}
			}
		}
	}
}

func TestCrashesByChance(t *testing.T) {
	r := rand.New(rand.NewSource(13))
	for range 500 {
		writes := r.Intn(61)
		d := deviceByChance(r, writes)
		for _, n := range []int{0, 1, 2, r.Intn(61), writes - 1, writes, writes + 1} {
			crashAsPlain(t, d, fatesByChance(r, max(n, 0)))
		}
	}
	d := deviceByChance(r, 60)
	crashAsPlain(t, d, fatesByChance(r, impl.MaxList-1))
	crashAsPlain(t, d, fatesByChance(r, impl.MaxList))
	crashAsPlain(t, someDevice(), fatesByChance(r, 5))
}

func TestFatesThatAreNone(t *testing.T) {
	for _, d := range []impl.Device{impl.NewDevice(), deviceOf(someDevice().Sure), someDevice(), deviceOf(nil, writesOf(60)...)} {
		for _, fate := range wrongFates {
			noCrash(t, d, []int{fate}, impl.ErrRange)
			noCrash(t, d, []int{fate, 0}, impl.ErrRange)
			noCrash(t, d, []int{0, 1, 2, fate}, impl.ErrRange)
			// No write comes to this one.
			noCrash(t, d, append(make([]int, 100), fate), impl.ErrRange)
			noCrash(t, d, append(make([]int, impl.MaxList-1), fate), impl.ErrRange)
		}
	}
}

func TestTooManyFates(t *testing.T) {
	devices := []impl.Device{impl.NewDevice(), someDevice(), deviceOf(nil, writesOf(60)...)}
	for _, d := range badDevices() {
		devices = append(devices, d)
	}
	for _, d := range devices {
		for _, n := range []int{impl.MaxList + 1, 2 * impl.MaxList} {
			for _, fate := range slices.Concat(fatesByNames, wrongFates) {
				noCrash(t, d, slices.Repeat([]int{fate}, n), impl.ErrLong)
			}
		}
	}
}

func TestFlips(t *testing.T) {
	for _, by := range []int{1, 2, 3, 127, 128, 254, 255} {
		for _, at := range []int{1, 3, 5, 20, 38, 39} {
			d := someDevice()
			last := len(d.Sure[at]) - 1
			for _, place := range []int{0, last / 2, last} {
				want := keptDevice(d)
				want.Sure[at] = changedAt(d.Sure[at], place, byte(by))
				x := flipAt(t, d, at, place, by)
				if diff := unlike(x, want); diff != "" {
					t.Errorf("FlipAt %d %d %d: %s", at, place, by, diff)
				}
				if diff := unlike(flipAt(t, x, at, place, by), d); diff != "" {
					t.Errorf("FlipAt %d %d %d, twice: %s", at, place, by, diff)
				}
			}
		}
	}
}

func TestFlipsByEachByte(t *testing.T) {
	all := make([]byte, 256)
	for i := range all {
		all[i] = byte(i)
	}
	d := deviceOf([]string{string(all)})
	for by := 1; by < 256; by++ {
		for place := range all {
			if got := flipAt(t, d, 0, place, by).Sure[0]; got != changedAt(string(all), place, byte(by)) {
				t.Errorf("FlipAt 0 %d %d: %x", place, by, got)
			}
		}
	}
}

func TestAFlipIsOfWhatIsSure(t *testing.T) {
	d := deviceOf([]string{"abc", ""}, impl.Io{At: 0, Data: "longer"}, impl.Io{At: 1, Data: "new"})
	x := flipAt(t, d, 0, 1, 3)
	if diff := unlike(x, deviceOf([]string{"aac", ""}, d.Unsure...)); diff != "" {
		t.Error("FlipAt:", diff)
	}
	readsAs(t, x, 0, "longer")
	readsAs(t, crashWith(t, x, nil), 0, "aac")
	readsAs(t, syncAll(t, x), 0, "longer")
	// The unsure write has such a byte; what is sure has none.
	flipStays(t, d, 0, 3, 1)
	flipStays(t, d, 1, 0, 1)
}

func TestFlipsOfNoByte(t *testing.T) {
	d := someDevice()
	for _, at := range rightSectors {
		size := len(d.Sure[at])
		for _, place := range []int{math.MinInt, -700, -1, size, size + 1, 700, 701, math.MaxInt} {
			for _, by := range []int{1, 255} {
				flipStays(t, d, at, place, by)
			}
		}
	}
	flipStays(t, deviceOf(nil, writesOf(60)...), 0, 0, 1)
}

func TestFlipsThatAreOutOfBounds(t *testing.T) {
	for _, d := range []impl.Device{impl.NewDevice(), someDevice()} {
		for _, place := range []int{math.MinInt, -1, 0, 5, 700, math.MaxInt} {
			for _, at := range wrongSectors {
				for _, by := range slices.Concat(wrongFlips, []int{1, 255}) {
					noFlip(t, d, at, place, by, impl.ErrRange)
				}
			}
			for _, at := range rightSectors {
				for _, by := range wrongFlips {
					noFlip(t, d, at, place, by, impl.ErrRange)
				}
			}
		}
	}
}

func sameDevices(t *testing.T, name string, a, b impl.Device, want bool) {
	t.Helper()
	if impl.SameDevice(a, b) != want || impl.SameDevice(b, a) != want {
		t.Errorf("SameDevice, %s: not %v", name, want)
	}
}

func TestSameDevices(t *testing.T) {
	r := rand.New(rand.NewSource(14))
	for _, d := range []impl.Device{impl.NewDevice(), someDevice(), deviceByChance(r, 60)} {
		sameDevices(t, "itself", d, d, true)
		sameDevices(t, "a copy", d, keptDevice(d), true)
	}
	none := impl.Device{Sure: make([]string, 40), Unsure: []impl.Io{}}
	sameDevices(t, "no writes and nil", none, impl.NewDevice(), true)
	more := impl.Device{Sure: append(make([]string, 0, 90), make([]string, 40)...), Unsure: make([]impl.Io, 0, 9)}
	sameDevices(t, "another capacity", more, impl.NewDevice(), true)
	// All is alike, though nothing is right.
	sameDevices(t, "none and empty lists", impl.Device{}, impl.Device{Sure: []string{}, Unsure: []impl.Io{}}, true)
	for name, d := range badDevices() {
		sameDevices(t, name, d, keptDevice(d), true)
		sameDevices(t, name, d, someDevice(), false)
	}
}

func TestDevicesThatAreUnlikeInOneThing(t *testing.T) {
	d := someDevice()
	for at := range 40 {
		x := keptDevice(d)
		x.Sure[at] += "x"
		sameDevices(t, "a longer sector", d, x, false)
		if at > 0 {
			x.Sure[at] = changedAt(d.Sure[at], len(d.Sure[at])-1, 1)
			sameDevices(t, "a changed sector", d, x, false)
		}
	}
	for i, write := range d.Unsure {
		x := keptDevice(d)
		x.Unsure[i].At = (write.At + 1) % 40
		sameDevices(t, "a write's place", d, x, false)
		x = keptDevice(d)
		x.Unsure[i].Data = changedAt(write.Data, 0, 1)
		sameDevices(t, "a write's text", d, x, false)
		x.Unsure[i].Data = write.Data[1:]
		sameDevices(t, "a write's length", d, x, false)
		x = keptDevice(d)
		x.Unsure = slices.Delete(x.Unsure, i, i+1)
		sameDevices(t, "a write is gone", d, x, false)
		x = keptDevice(d)
		other := (i + 1) % len(x.Unsure)
		x.Unsure[i], x.Unsure[other] = x.Unsure[other], x.Unsure[i]
		sameDevices(t, "the writes' order", d, x, false)
	}
}

func TestDevicesOfOtherLengths(t *testing.T) {
	d := someDevice()
	x := keptDevice(d)
	x.Unsure = append(x.Unsure, impl.Io{})
	sameDevices(t, "one more write", d, x, false)
	x = keptDevice(d)
	x.Sure = append(x.Sure, "")
	sameDevices(t, "one more sector", d, x, false)
	x.Sure = x.Sure[:39]
	sameDevices(t, "a sector less", d, x, false)
	sameDevices(t, "none and a new one", impl.Device{}, impl.NewDevice(), false)
	// What is read is alike, but not what is sure.
	unsure := deviceOf(nil, impl.Io{At: 0, Data: "x"})
	sameDevices(t, "sure and unsure", unsure, deviceOf([]string{"x"}), false)
	sameDevices(t, "two sectors changed about", deviceOf([]string{"x", "y"}), deviceOf([]string{"y", "x"}), false)
}

// deviceAnswers are all calls that answer a device, with each kind of answer.
func deviceAnswers() map[string]func(d impl.Device, fates []int) impl.Device {
	return map[string]func(d impl.Device, fates []int) impl.Device{
		"WriteAt": func(d impl.Device, fates []int) impl.Device {
			x, _ := impl.WriteAt(d, 3, "text")
			return x
		},
		"WriteAt at no sector": func(d impl.Device, fates []int) impl.Device {
			x, _ := impl.WriteAt(d, 40, "text")
			return x
		},
		"WriteAt of 701 bytes": func(d impl.Device, fates []int) impl.Device {
			x, _ := impl.WriteAt(d, 3, textOf(701))
			return x
		},
		"SyncAll": func(d impl.Device, fates []int) impl.Device {
			x, _ := impl.SyncAll(d)
			return x
		},
		"CrashWith": func(d impl.Device, fates []int) impl.Device {
			x, _ := impl.CrashWith(d, fates)
			return x
		},
		"CrashWith no fates": func(d impl.Device, fates []int) impl.Device {
			x, _ := impl.CrashWith(d, nil)
			return x
		},
		"FlipAt": func(d impl.Device, fates []int) impl.Device {
			x, _ := impl.FlipAt(d, 39, 0, 1)
			return x
		},
		"FlipAt of no byte": func(d impl.Device, fates []int) impl.Device {
			x, _ := impl.FlipAt(d, 39, -1, 1)
			return x
		},
	}
}

// roomyDevices have room behind the ends of their lists.
func roomyDevices() []impl.Device {
	var out []impl.Device
	for _, d := range []impl.Device{impl.NewDevice(), someDevice(), deviceOf(nil, writesOf(59)...), deviceOf(nil, writesOf(60)...), deviceOf(nil, writesOf(61)...)} {
		out = append(out, impl.Device{
			Sure:   append(slices.Clone(d.Sure), "behind", "the end")[:len(d.Sure)],
			Unsure: append(slices.Clone(d.Unsure), writesOf(5)...)[:len(d.Unsure)],
		})
	}
	return out
}

// toTheBrim is the device with all that is behind the ends of its lists.
func toTheBrim(d impl.Device) impl.Device {
	return impl.Device{Sure: d.Sure[:cap(d.Sure)], Unsure: d.Unsure[:cap(d.Unsure)]}
}

// spoil writes over all that a device holds, and behind its ends.
func spoil(d impl.Device) {
	brim := toTheBrim(d)
	for i := range brim.Sure {
		brim.Sure[i] = "spoilt"
	}
	for i := range brim.Unsure {
		brim.Unsure[i] = impl.Io{At: 99, Data: "spoilt"}
	}
}

func TestNoCallChangesADevice(t *testing.T) {
	for name, call := range deviceAnswers() {
		for i, d := range roomyDevices() {
			fates := append(make([]int, 0, 9), 2, 1, 0, 7, 7)[:3]
			kept := keptDevice(toTheBrim(d))
			call(d, fates)
			impl.DeviceOK(d)
			impl.ReadAt(d, 3)
			impl.SameDevice(d, d)
			if diff := unlike(toTheBrim(d), kept); diff != "" {
				t.Errorf("%s changed device %d: %s", name, i, diff)
			}
			if !slices.Equal(fates[:5], []int{2, 1, 0, 7, 7}) {
				t.Errorf("%s changed fates: %v", name, fates[:5])
			}
		}
	}
}

func TestNoAnswerSharesADevice(t *testing.T) {
	for name, call := range deviceAnswers() {
		for i, d := range roomyDevices() {
			fates := []int{2, 1, 0}
			kept := keptDevice(toTheBrim(d))
			x := call(d, fates)
			want := keptDevice(x)
			spoil(x)
			if diff := unlike(toTheBrim(d), kept); diff != "" {
				t.Errorf("%s shares device %d: %s", name, i, diff)
			}
			y := call(d, fates)
			spoil(d)
			fates[0] = 1
			if diff := unlike(y, want); diff != "" {
				t.Errorf("%s hangs on device %d: %s", name, i, diff)
			}
		}
	}
}

// A log of all writes, some of them sure, told beside the device.
func TestDevicesBesideALog(t *testing.T) {
	r := rand.New(rand.NewSource(15))
	for range 30 {
		d, want := impl.NewDevice(), deviceOf(nil)
		for range 200 {
			switch r.Intn(12) {
			case 0:
				d, want = syncAll(t, d), plainCrash(want, []int{1})
			case 1:
				fates := fatesByChance(r, r.Intn(6))
				d, want = crashWith(t, d, fates), plainCrash(want, fates)
			case 2:
				if at := r.Intn(40); want.Sure[at] != "" {
					place, by := r.Intn(len(want.Sure[at])), 1+r.Intn(255)
					d = flipAt(t, d, at, place, by)
					want.Sure[at] = changedAt(want.Sure[at], place, byte(by))
				}
			default:
				at, text := r.Intn(8), textOf(r.Intn(701))
				if len(want.Unsure) == 60 {
					writeStays(t, d, at, text, impl.ErrFull)
					break
				}
				d = writeAt(t, d, at, text)
				want.Unsure = append(want.Unsure, impl.Io{At: at, Data: text})
			}
			if diff := unlike(d, want); diff != "" {
				t.Fatal(diff)
			}
		}
	}
}
