package shots

import (
	"fmt"
	"math/rand"
	"slices"
	"testing"

	"matryoshka/api"
)

// taken is a shot of the model: what the image was, told as text.
type taken struct {
	name string
	size int
	text string
}

// model knows of the shots alone, and of the table what is told of it.
type model struct {
	size  int
	text  string
	shots []taken
}

// place goes through all shots.
func (m *model) place(name string) int {
	for i, x := range m.shots {
		if x.name == name {
			return i
		}
	}
	return -1
}

func (m *model) add(name string) api.Errno {
	if m.place(name) >= 0 {
		return api.ErrTwice
	}
	if len(m.shots) == 8 {
		return api.ErrMany
	}
	m.shots = append(m.shots, taken{name, m.size, m.text})
	return api.OK
}

func (m *model) back(name string) api.Errno {
	i := m.place(name)
	if i < 0 {
		return api.ErrName
	}
	m.size, m.text = m.shots[i].size, m.shots[i].text
	return api.OK
}

func (m *model) drop(name string) api.Errno {
	i := m.place(name)
	if i < 0 {
		return api.ErrName
	}
	m.shots = append(m.shots[:i], m.shots[i+1:]...)
	return api.OK
}

// checkModel holds a meta against the model.
func checkModel(t *testing.T, what string, m api.Meta, x *model) {
	t.Helper()
	want(t, what+", the size", m.Size, x.size)
	want(t, what+", the table", fmt.Sprint(m.T), x.text)
	want(t, what+", how many shots", len(m.Shots), len(x.shots))
	for i, shot := range x.shots {
		want(t, what+", a shot", fmt.Sprintf("%s %d %v", m.Shots[i].Name, m.Shots[i].Size, m.Shots[i].T), fmt.Sprintf("%s %d %s", shot.name, shot.size, shot.text))
		found, ok := Find(m, shot.name)
		want(t, what+", what is found", fmt.Sprint(found, ok), fmt.Sprint(m.Shots[i], true))
	}
}

// write changes the table and the size where they stand, as a caller may.
func write(random *rand.Rand, m *api.Meta, x *model) {
	if len(m.T.L) == 0 || random.Intn(4) == 0 {
		m.T = tableOf(raw(random.Intn(1000)))
	}
	leaf := m.T.L[random.Intn(len(m.T.L))]
	leaf[random.Intn(len(leaf))] = raw(random.Intn(1000))
	m.Size = random.Intn(100)
	x.size, x.text = m.Size, fmt.Sprint(m.T)
}

// 12.3: over long runs, Back brings the table that was there when the shot was taken.
func TestLongRuns(t *testing.T) {
	counts := map[api.Errno]int{}
	for seed := range int64(60) {
		random := rand.New(rand.NewSource(seed))
		names := []string{"a", "b", "c", "d", "e", "f", "g", "h", "i", "j", "k"}[:2+random.Intn(10)]
		m, x := right(), &model{}
		m.Shots = nil
		x.size, x.text = m.Size, fmt.Sprint(m.T)
		for i := range 400 {
			name := names[random.Intn(len(names))]
			next, errno, wanted := m, api.OK, api.OK
			kind := random.Intn(9)
			switch {
			case kind < 3:
				write(random, &next, x)
			case kind < 6:
				next, errno = Add(m, name)
				wanted = x.add(name)
			case kind < 8:
				next, errno = Back(m, name)
				wanted = x.back(name)
			default:
				next, errno = Drop(m, name)
				wanted = x.drop(name)
			}
			what := fmt.Sprintf("seed %d, act %d", seed, i)
			want(t, what, errno, wanted)
			counts[errno]++
			if errno == api.OK {
				m = next
			}
			checkModel(t, what, m, x)
		}
	}
	for _, errno := range []api.Errno{api.OK, api.ErrTwice, api.ErrMany, api.ErrName} {
		if counts[errno] < 100 {
			t.Errorf("error %d only %d times", errno, counts[errno])
		}
	}
}

// 12.2: over long runs of Back, the bitmaps hold what the words of 13.2 make of them.
func TestLongRunsOfBitmaps(t *testing.T) {
	for seed := range int64(60) {
		random := rand.New(rand.NewSource(seed))
		m := right()
		for range 100 {
			m.Cluster = random.Intn(4)
			m.Size = random.Intn(120)
			m.Maps = append(m.Maps, api.Bitmap{Name: "z", On: random.Intn(2) == 0, L: spansOf(anyNumbers(random), 40)})
			m.Maps = m.Maps[max(0, len(m.Maps)-8):]
			name := []string{"a", "b", "c"}[random.Intn(3)]
			shot, _ := Find(m, name)
			wanted := mapsBack(m, shot.Size)
			checkBack(t, m, name, slices.IndexFunc(m.Shots, func(x api.Shot) bool { return x.Name == name }), wanted)
			m, _ = Back(m, name)
		}
	}
}

func anyNumbers(random *rand.Rand) map[int]bool {
	in := map[int]bool{}
	for range random.Intn(20) {
		in[random.Intn(40)] = true
	}
	return in
}
